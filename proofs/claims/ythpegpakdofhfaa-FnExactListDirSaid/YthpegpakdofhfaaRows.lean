/-
  No cell of these rows narrows 'for every input' (looked for: loops, veiled, ifaces, maps, wideKeys, modest, calm, conditions, laid).
  DERIVED. THE GIVEN ROWS OF THIS SEAT. 11 by the template 'for every input the law returns true; each argument reads behind the call as it read before'; 0 by the template 'total and deterministic' (their statements: YthpegpakdofhfaaTotals.lean).
  GIVEN WITH THE SEED: the statements are not yours to turn. If you find one false, say at which input.
  Laid BY PROGRAM, IN A SANDBOX (cutbox-rows.mjs): the forced cells as the released guide's own fill.sh prints them over the translation 999bb7cf14bfae07… (all of the seat's roots in one cut). By AI agents, Wed Nov 11 2026. No macro, syntax, notation, axiom, sorry.
-/
import Derived.Test.YthpegpakdofhfaaChecked
import GoSem.Claim
import GoSem.ClaimJoined
import GoSem.ClaimMapViews
import Derived.JoinedTies
import Derived.KernelRfl
namespace Go.Proofs.Ythpegpakdofhfaa
/- THE CELL 'sum', in the pinned program and in every row, IS THE sha256 OF THE DUMP (.gsa) THAT YthpegpakdofhfaaProg.lean LOADS. Nothing in Lean hashes anything: it is a label: what it is worth is what the hold of that sum in a sandbox is worth. -/
noncomputable def Try.pinned : Pinned := { name := "ythpegpakdofhfaa", sum := "999bb7cf14bfae07822135f05756bcb75ad085a441c52f13de5c8f952ae07c3a", checked := Try.checked }
namespace Rows
def none {H : Type} : Left H := { results := [], args := [] }

/-- 'laws.FnExactValidBody': WHATEVER THE INPUT: true; the input reads as it did. -/
def fnExactValidBodySpec : ChangeSpec := { name := "fnExactValidBody", fn := fun _ => fun
  | [d] => { results := [.lit (.bool true)], args := [d] }
  | _ => none }
def fnExactValidBodyRow : OpenClaim := { program := "ythpegpakdofhfaa", sum := "999bb7cf14bfae07822135f05756bcb75ad085a441c52f13de5c8f952ae07c3a", func := "loop.example/importhouse/laws.FnExactValidBody", spec := "fnExactValidBody", plainKeys := false, apart := false }
def FnExactValidBodySaid : Prop := fnExactValidBodyRow.holds Try.pinned (OpenSpec.ofChange fnExactValidBodySpec)

/-- ITS FALSE NEIGHBOUR: 'it returns false'. Refute it at one input. -/
def fnExactValidBodyWrong : ChangeSpec := { name := "fnExactValidBody", fn := fun _ => fun
  | [d] => { results := [.lit (.bool false)], args := [d] }
  | _ => none }
def FnExactValidBodyWrongFalsely : Prop := fnExactValidBodyRow.holds Try.pinned (OpenSpec.ofChange fnExactValidBodyWrong)

/-- 'laws.FnExactValidTree': WHATEVER THE INPUT: true; the input reads as it did. -/
def fnExactValidTreeSpec : ChangeSpec := { name := "fnExactValidTree", fn := fun _ => fun
  | [d] => { results := [.lit (.bool true)], args := [d] }
  | _ => none }
def fnExactValidTreeRow : OpenClaim := { program := "ythpegpakdofhfaa", sum := "999bb7cf14bfae07822135f05756bcb75ad085a441c52f13de5c8f952ae07c3a", func := "loop.example/importhouse/laws.FnExactValidTree", spec := "fnExactValidTree", plainKeys := false, apart := false }
def FnExactValidTreeSaid : Prop := fnExactValidTreeRow.holds Try.pinned (OpenSpec.ofChange fnExactValidTreeSpec)

/-- ITS FALSE NEIGHBOUR: 'it returns false'. Refute it at one input. -/
def fnExactValidTreeWrong : ChangeSpec := { name := "fnExactValidTree", fn := fun _ => fun
  | [d] => { results := [.lit (.bool false)], args := [d] }
  | _ => none }
def FnExactValidTreeWrongFalsely : Prop := fnExactValidTreeRow.holds Try.pinned (OpenSpec.ofChange fnExactValidTreeWrong)

/-- 'laws.FnExactModuleOf': WHATEVER THE INPUT: true; the input reads as it did. -/
def fnExactModuleOfSpec : ChangeSpec := { name := "fnExactModuleOf", fn := fun _ => fun
  | [d] => { results := [.lit (.bool true)], args := [d] }
  | _ => none }
def fnExactModuleOfRow : OpenClaim := { program := "ythpegpakdofhfaa", sum := "999bb7cf14bfae07822135f05756bcb75ad085a441c52f13de5c8f952ae07c3a", func := "loop.example/importhouse/laws.FnExactModuleOf", spec := "fnExactModuleOf", plainKeys := false, apart := false }
def FnExactModuleOfSaid : Prop := fnExactModuleOfRow.holds Try.pinned (OpenSpec.ofChange fnExactModuleOfSpec)

/-- ITS FALSE NEIGHBOUR: 'it returns false'. Refute it at one input. -/
def fnExactModuleOfWrong : ChangeSpec := { name := "fnExactModuleOf", fn := fun _ => fun
  | [d] => { results := [.lit (.bool false)], args := [d] }
  | _ => none }
def FnExactModuleOfWrongFalsely : Prop := fnExactModuleOfRow.holds Try.pinned (OpenSpec.ofChange fnExactModuleOfWrong)

/-- 'laws.FnExactAddFile': WHATEVER THE INPUT: true; the input reads as it did. -/
def fnExactAddFileSpec : ChangeSpec := { name := "fnExactAddFile", fn := fun _ => fun
  | [d1, d2] => { results := [.lit (.bool true)], args := [d1, d2] }
  | _ => none }
def fnExactAddFileRow : OpenClaim := { program := "ythpegpakdofhfaa", sum := "999bb7cf14bfae07822135f05756bcb75ad085a441c52f13de5c8f952ae07c3a", func := "loop.example/importhouse/laws.FnExactAddFile", spec := "fnExactAddFile", plainKeys := false, apart := false }
def FnExactAddFileSaid : Prop := fnExactAddFileRow.holds Try.pinned (OpenSpec.ofChange fnExactAddFileSpec)

/-- ITS FALSE NEIGHBOUR: 'it returns false'. Refute it at one input. -/
def fnExactAddFileWrong : ChangeSpec := { name := "fnExactAddFile", fn := fun _ => fun
  | [d1, d2] => { results := [.lit (.bool false)], args := [d1, d2] }
  | _ => none }
def FnExactAddFileWrongFalsely : Prop := fnExactAddFileRow.holds Try.pinned (OpenSpec.ofChange fnExactAddFileWrong)

/-- 'laws.FnExactRemoveFile': WHATEVER THE INPUT: true; the input reads as it did. -/
def fnExactRemoveFileSpec : ChangeSpec := { name := "fnExactRemoveFile", fn := fun _ => fun
  | [d1, d2] => { results := [.lit (.bool true)], args := [d1, d2] }
  | _ => none }
def fnExactRemoveFileRow : OpenClaim := { program := "ythpegpakdofhfaa", sum := "999bb7cf14bfae07822135f05756bcb75ad085a441c52f13de5c8f952ae07c3a", func := "loop.example/importhouse/laws.FnExactRemoveFile", spec := "fnExactRemoveFile", plainKeys := false, apart := false }
def FnExactRemoveFileSaid : Prop := fnExactRemoveFileRow.holds Try.pinned (OpenSpec.ofChange fnExactRemoveFileSpec)

/-- ITS FALSE NEIGHBOUR: 'it returns false'. Refute it at one input. -/
def fnExactRemoveFileWrong : ChangeSpec := { name := "fnExactRemoveFile", fn := fun _ => fun
  | [d1, d2] => { results := [.lit (.bool false)], args := [d1, d2] }
  | _ => none }
def FnExactRemoveFileWrongFalsely : Prop := fnExactRemoveFileRow.holds Try.pinned (OpenSpec.ofChange fnExactRemoveFileWrong)

/-- 'laws.FnExactEditFile': WHATEVER THE INPUT: true; the input reads as it did. -/
def fnExactEditFileSpec : ChangeSpec := { name := "fnExactEditFile", fn := fun _ => fun
  | [d1, d2, d3, d4] => { results := [.lit (.bool true)], args := [d1, d2, d3, d4] }
  | _ => none }
def fnExactEditFileRow : OpenClaim := { program := "ythpegpakdofhfaa", sum := "999bb7cf14bfae07822135f05756bcb75ad085a441c52f13de5c8f952ae07c3a", func := "loop.example/importhouse/laws.FnExactEditFile", spec := "fnExactEditFile", plainKeys := false, apart := false }
def FnExactEditFileSaid : Prop := fnExactEditFileRow.holds Try.pinned (OpenSpec.ofChange fnExactEditFileSpec)

/-- ITS FALSE NEIGHBOUR: 'it returns false'. Refute it at one input. -/
def fnExactEditFileWrong : ChangeSpec := { name := "fnExactEditFile", fn := fun _ => fun
  | [d1, d2, d3, d4] => { results := [.lit (.bool false)], args := [d1, d2, d3, d4] }
  | _ => none }
def FnExactEditFileWrongFalsely : Prop := fnExactEditFileRow.holds Try.pinned (OpenSpec.ofChange fnExactEditFileWrong)

/-- 'laws.FnExactHasDir': WHATEVER THE INPUT: true; the input reads as it did. -/
def fnExactHasDirSpec : ChangeSpec := { name := "fnExactHasDir", fn := fun _ => fun
  | [d1, d2, d3] => { results := [.lit (.bool true)], args := [d1, d2, d3] }
  | _ => none }
def fnExactHasDirRow : OpenClaim := { program := "ythpegpakdofhfaa", sum := "999bb7cf14bfae07822135f05756bcb75ad085a441c52f13de5c8f952ae07c3a", func := "loop.example/importhouse/laws.FnExactHasDir", spec := "fnExactHasDir", plainKeys := false, apart := false }
def FnExactHasDirSaid : Prop := fnExactHasDirRow.holds Try.pinned (OpenSpec.ofChange fnExactHasDirSpec)

/-- ITS FALSE NEIGHBOUR: 'it returns false'. Refute it at one input. -/
def fnExactHasDirWrong : ChangeSpec := { name := "fnExactHasDir", fn := fun _ => fun
  | [d1, d2, d3] => { results := [.lit (.bool false)], args := [d1, d2, d3] }
  | _ => none }
def FnExactHasDirWrongFalsely : Prop := fnExactHasDirRow.holds Try.pinned (OpenSpec.ofChange fnExactHasDirWrong)

/-- 'laws.FnExactListDir': WHATEVER THE INPUT: true; the input reads as it did. -/
def fnExactListDirSpec : ChangeSpec := { name := "fnExactListDir", fn := fun _ => fun
  | [d1, d2, d3] => { results := [.lit (.bool true)], args := [d1, d2, d3] }
  | _ => none }
def fnExactListDirRow : OpenClaim := { program := "ythpegpakdofhfaa", sum := "999bb7cf14bfae07822135f05756bcb75ad085a441c52f13de5c8f952ae07c3a", func := "loop.example/importhouse/laws.FnExactListDir", spec := "fnExactListDir", recurses := true, plainKeys := false, apart := false }
def FnExactListDirSaid : Prop := fnExactListDirRow.holds Try.pinned (OpenSpec.ofChange fnExactListDirSpec)

/-- ITS FALSE NEIGHBOUR: 'it returns false'. Refute it at one input. -/
def fnExactListDirWrong : ChangeSpec := { name := "fnExactListDir", fn := fun _ => fun
  | [d1, d2, d3] => { results := [.lit (.bool false)], args := [d1, d2, d3] }
  | _ => none }
def FnExactListDirWrongFalsely : Prop := fnExactListDirRow.holds Try.pinned (OpenSpec.ofChange fnExactListDirWrong)

/-- 'laws.FnExactHashOf': WHATEVER THE INPUT: true; the input reads as it did. -/
def fnExactHashOfSpec : ChangeSpec := { name := "fnExactHashOf", fn := fun _ => fun
  | [d] => { results := [.lit (.bool true)], args := [d] }
  | _ => none }
def fnExactHashOfRow : OpenClaim := { program := "ythpegpakdofhfaa", sum := "999bb7cf14bfae07822135f05756bcb75ad085a441c52f13de5c8f952ae07c3a", func := "loop.example/importhouse/laws.FnExactHashOf", spec := "fnExactHashOf", plainKeys := false, apart := false }
def FnExactHashOfSaid : Prop := fnExactHashOfRow.holds Try.pinned (OpenSpec.ofChange fnExactHashOfSpec)

/-- ITS FALSE NEIGHBOUR: 'it returns false'. Refute it at one input. -/
def fnExactHashOfWrong : ChangeSpec := { name := "fnExactHashOf", fn := fun _ => fun
  | [d] => { results := [.lit (.bool false)], args := [d] }
  | _ => none }
def FnExactHashOfWrongFalsely : Prop := fnExactHashOfRow.holds Try.pinned (OpenSpec.ofChange fnExactHashOfWrong)

/-- 'laws.FnExactModulesOf': WHATEVER THE INPUT: true; the input reads as it did. -/
def fnExactModulesOfSpec : ChangeSpec := { name := "fnExactModulesOf", fn := fun _ => fun
  | [d] => { results := [.lit (.bool true)], args := [d] }
  | _ => none }
def fnExactModulesOfRow : OpenClaim := { program := "ythpegpakdofhfaa", sum := "999bb7cf14bfae07822135f05756bcb75ad085a441c52f13de5c8f952ae07c3a", func := "loop.example/importhouse/laws.FnExactModulesOf", spec := "fnExactModulesOf", recurses := true, plainKeys := false, apart := false }
def FnExactModulesOfSaid : Prop := fnExactModulesOfRow.holds Try.pinned (OpenSpec.ofChange fnExactModulesOfSpec)

/-- ITS FALSE NEIGHBOUR: 'it returns false'. Refute it at one input. -/
def fnExactModulesOfWrong : ChangeSpec := { name := "fnExactModulesOf", fn := fun _ => fun
  | [d] => { results := [.lit (.bool false)], args := [d] }
  | _ => none }
def FnExactModulesOfWrongFalsely : Prop := fnExactModulesOfRow.holds Try.pinned (OpenSpec.ofChange fnExactModulesOfWrong)

/-- 'laws.FnExactPackagesOf': WHATEVER THE INPUT: true; the input reads as it did. -/
def fnExactPackagesOfSpec : ChangeSpec := { name := "fnExactPackagesOf", fn := fun _ => fun
  | [d] => { results := [.lit (.bool true)], args := [d] }
  | _ => none }
def fnExactPackagesOfRow : OpenClaim := { program := "ythpegpakdofhfaa", sum := "999bb7cf14bfae07822135f05756bcb75ad085a441c52f13de5c8f952ae07c3a", func := "loop.example/importhouse/laws.FnExactPackagesOf", spec := "fnExactPackagesOf", recurses := true, plainKeys := false, apart := false }
def FnExactPackagesOfSaid : Prop := fnExactPackagesOfRow.holds Try.pinned (OpenSpec.ofChange fnExactPackagesOfSpec)

/-- ITS FALSE NEIGHBOUR: 'it returns false'. Refute it at one input. -/
def fnExactPackagesOfWrong : ChangeSpec := { name := "fnExactPackagesOf", fn := fun _ => fun
  | [d] => { results := [.lit (.bool false)], args := [d] }
  | _ => none }
def FnExactPackagesOfWrongFalsely : Prop := fnExactPackagesOfRow.holds Try.pinned (OpenSpec.ofChange fnExactPackagesOfWrong)

/- THE SECOND FORM. 'bulk': how many values and letters a reading holds, each counted each time it is reached (what is shared counts as often as it is met; a slice's spare places count too). A statement '..UptoSaid' is the law's where the arguments, and the package variables that the reading takes, are together of bulk at most 1048576: NARROWER than '..Said'. Prove '..Said' where nothing that the law and all that it calls make is longer than what came in: it says more and counts as full. Else prove '..UptoSaid'. A law counts once. -/
mutual
def uptoBulk {H : Type} : DataW H → Nat
  | .lit (.string bytes) => bytes.length + 1
  | .lit _ => 1
  | .nil => 1
  | .ptr d => uptoBulk d + 1
  | .slice elems spare => uptoBulkAll elems + uptoBulkAll spare + 1
  | .agg parts => uptoBulkAll parts + 1
  | .iface _ d => uptoBulk d + 1
  | .map entries => uptoBulkEntries entries + 1
  | .held _ => 1
def uptoBulkAll {H : Type} : List (DataW H) → Nat
  | [] => 0
  | d :: r => uptoBulk d + uptoBulkAll r
def uptoBulkEntries {H : Type} : List (Lit × DataW H) → Nat
  | [] => 0
  | x :: r => uptoBulkEntry x + uptoBulkEntries r
def uptoBulkEntry {H : Type} : Lit × DataW H → Nat
  | (.string bytes, d) => bytes.length + uptoBulk d + 1
  | (_, d) => uptoBulk d + 1
 end
def uptoSmall : (H : Type) → List (DataW H) → Bool := fun _ ds => decide (uptoBulkAll ds ≤ 1048576)
def OpenSpec.upto (s : _root_.Go.ChangeSpec) : _root_.Go.OpenSpec := { _root_.Go.OpenSpec.ofChange s with cond := some uptoSmall }

/-- 'laws.FnExactValidBody', WHERE WHAT IT READS IS OF BULK AT MOST 1048576: true; the input reads as it did. -/
def fnExactValidBodyUptoRow : OpenClaim := { program := "ythpegpakdofhfaa", sum := "999bb7cf14bfae07822135f05756bcb75ad085a441c52f13de5c8f952ae07c3a", func := "loop.example/importhouse/laws.FnExactValidBody", spec := "fnExactValidBody", plainKeys := false, apart := false, narrowed := true }
def FnExactValidBodyUptoSaid : Prop := fnExactValidBodyUptoRow.holds Try.pinned (OpenSpec.upto fnExactValidBodySpec)

/-- 'laws.FnExactValidTree', WHERE WHAT IT READS IS OF BULK AT MOST 1048576: true; the input reads as it did. -/
def fnExactValidTreeUptoRow : OpenClaim := { program := "ythpegpakdofhfaa", sum := "999bb7cf14bfae07822135f05756bcb75ad085a441c52f13de5c8f952ae07c3a", func := "loop.example/importhouse/laws.FnExactValidTree", spec := "fnExactValidTree", plainKeys := false, apart := false, narrowed := true }
def FnExactValidTreeUptoSaid : Prop := fnExactValidTreeUptoRow.holds Try.pinned (OpenSpec.upto fnExactValidTreeSpec)

/-- 'laws.FnExactModuleOf', WHERE WHAT IT READS IS OF BULK AT MOST 1048576: true; the input reads as it did. -/
def fnExactModuleOfUptoRow : OpenClaim := { program := "ythpegpakdofhfaa", sum := "999bb7cf14bfae07822135f05756bcb75ad085a441c52f13de5c8f952ae07c3a", func := "loop.example/importhouse/laws.FnExactModuleOf", spec := "fnExactModuleOf", plainKeys := false, apart := false, narrowed := true }
def FnExactModuleOfUptoSaid : Prop := fnExactModuleOfUptoRow.holds Try.pinned (OpenSpec.upto fnExactModuleOfSpec)

/-- 'laws.FnExactAddFile', WHERE WHAT IT READS IS OF BULK AT MOST 1048576: true; the input reads as it did. -/
def fnExactAddFileUptoRow : OpenClaim := { program := "ythpegpakdofhfaa", sum := "999bb7cf14bfae07822135f05756bcb75ad085a441c52f13de5c8f952ae07c3a", func := "loop.example/importhouse/laws.FnExactAddFile", spec := "fnExactAddFile", plainKeys := false, apart := false, narrowed := true }
def FnExactAddFileUptoSaid : Prop := fnExactAddFileUptoRow.holds Try.pinned (OpenSpec.upto fnExactAddFileSpec)

/-- 'laws.FnExactRemoveFile', WHERE WHAT IT READS IS OF BULK AT MOST 1048576: true; the input reads as it did. -/
def fnExactRemoveFileUptoRow : OpenClaim := { program := "ythpegpakdofhfaa", sum := "999bb7cf14bfae07822135f05756bcb75ad085a441c52f13de5c8f952ae07c3a", func := "loop.example/importhouse/laws.FnExactRemoveFile", spec := "fnExactRemoveFile", plainKeys := false, apart := false, narrowed := true }
def FnExactRemoveFileUptoSaid : Prop := fnExactRemoveFileUptoRow.holds Try.pinned (OpenSpec.upto fnExactRemoveFileSpec)

/-- 'laws.FnExactEditFile', WHERE WHAT IT READS IS OF BULK AT MOST 1048576: true; the input reads as it did. -/
def fnExactEditFileUptoRow : OpenClaim := { program := "ythpegpakdofhfaa", sum := "999bb7cf14bfae07822135f05756bcb75ad085a441c52f13de5c8f952ae07c3a", func := "loop.example/importhouse/laws.FnExactEditFile", spec := "fnExactEditFile", plainKeys := false, apart := false, narrowed := true }
def FnExactEditFileUptoSaid : Prop := fnExactEditFileUptoRow.holds Try.pinned (OpenSpec.upto fnExactEditFileSpec)

/-- 'laws.FnExactHasDir', WHERE WHAT IT READS IS OF BULK AT MOST 1048576: true; the input reads as it did. -/
def fnExactHasDirUptoRow : OpenClaim := { program := "ythpegpakdofhfaa", sum := "999bb7cf14bfae07822135f05756bcb75ad085a441c52f13de5c8f952ae07c3a", func := "loop.example/importhouse/laws.FnExactHasDir", spec := "fnExactHasDir", plainKeys := false, apart := false, narrowed := true }
def FnExactHasDirUptoSaid : Prop := fnExactHasDirUptoRow.holds Try.pinned (OpenSpec.upto fnExactHasDirSpec)

/-- 'laws.FnExactListDir', WHERE WHAT IT READS IS OF BULK AT MOST 1048576: true; the input reads as it did. -/
def fnExactListDirUptoRow : OpenClaim := { program := "ythpegpakdofhfaa", sum := "999bb7cf14bfae07822135f05756bcb75ad085a441c52f13de5c8f952ae07c3a", func := "loop.example/importhouse/laws.FnExactListDir", spec := "fnExactListDir", recurses := true, plainKeys := false, apart := false, narrowed := true }
def FnExactListDirUptoSaid : Prop := fnExactListDirUptoRow.holds Try.pinned (OpenSpec.upto fnExactListDirSpec)

/-- 'laws.FnExactHashOf', WHERE WHAT IT READS IS OF BULK AT MOST 1048576: true; the input reads as it did. -/
def fnExactHashOfUptoRow : OpenClaim := { program := "ythpegpakdofhfaa", sum := "999bb7cf14bfae07822135f05756bcb75ad085a441c52f13de5c8f952ae07c3a", func := "loop.example/importhouse/laws.FnExactHashOf", spec := "fnExactHashOf", plainKeys := false, apart := false, narrowed := true }
def FnExactHashOfUptoSaid : Prop := fnExactHashOfUptoRow.holds Try.pinned (OpenSpec.upto fnExactHashOfSpec)

/-- 'laws.FnExactModulesOf', WHERE WHAT IT READS IS OF BULK AT MOST 1048576: true; the input reads as it did. -/
def fnExactModulesOfUptoRow : OpenClaim := { program := "ythpegpakdofhfaa", sum := "999bb7cf14bfae07822135f05756bcb75ad085a441c52f13de5c8f952ae07c3a", func := "loop.example/importhouse/laws.FnExactModulesOf", spec := "fnExactModulesOf", recurses := true, plainKeys := false, apart := false, narrowed := true }
def FnExactModulesOfUptoSaid : Prop := fnExactModulesOfUptoRow.holds Try.pinned (OpenSpec.upto fnExactModulesOfSpec)

/-- 'laws.FnExactPackagesOf', WHERE WHAT IT READS IS OF BULK AT MOST 1048576: true; the input reads as it did. -/
def fnExactPackagesOfUptoRow : OpenClaim := { program := "ythpegpakdofhfaa", sum := "999bb7cf14bfae07822135f05756bcb75ad085a441c52f13de5c8f952ae07c3a", func := "loop.example/importhouse/laws.FnExactPackagesOf", spec := "fnExactPackagesOf", recurses := true, plainKeys := false, apart := false, narrowed := true }
def FnExactPackagesOfUptoSaid : Prop := fnExactPackagesOfUptoRow.holds Try.pinned (OpenSpec.upto fnExactPackagesOfSpec)

end Rows
end Go.Proofs.Ythpegpakdofhfaa
