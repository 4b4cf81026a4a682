/-
  No cell of these rows narrows 'for every input' (looked for: loops, veiled, ifaces, maps, wideKeys, modest, calm, conditions, laid).
  DERIVED. THE GIVEN ROWS OF THIS SEAT. 11 by the template 'for every input the law returns true; each argument reads behind the call as it read before'; 0 by the template 'total and deterministic' (their statements: YtebfafefeajemaaTotals.lean).
  GIVEN WITH THE SEED: the statements are not yours to turn. If you find one false, say at which input.
  Laid BY PROGRAM, IN A SANDBOX (cutbox-rows.mjs): the forced cells as the released guide's own fill.sh prints them over the translation d7949ce9044264d4… (all of the seat's roots in one cut). By AI agents, Wed Nov 11 2026. No macro, syntax, notation, axiom, sorry.
-/
import Derived.Test.YtebfafefeajemaaChecked
import GoSem.Claim
import GoSem.ClaimJoined
import GoSem.ClaimMapViews
import Derived.JoinedTies
import Derived.KernelRfl
namespace Go.Proofs.Ytebfafefeajemaa
/- THE CELL 'sum', in the pinned program and in every row, IS THE sha256 OF THE DUMP (.gsa) THAT YtebfafefeajemaaProg.lean LOADS. Nothing in Lean hashes anything: it is a label: what it is worth is what the hold of that sum in a sandbox is worth. -/
noncomputable def Try.pinned : Pinned := { name := "ytebfafefeajemaa", sum := "d7949ce9044264d419c625241822beba72e1fb8b8d72c8bcaf81a2bbe78ea890", checked := Try.checked }
namespace Rows
def none {H : Type} : Left H := { results := [], args := [] }

/-- 'laws.FnExactCompileFile': WHATEVER THE INPUT: true; the input reads as it did. -/
def fnExactCompileFileSpec : ChangeSpec := { name := "fnExactCompileFile", fn := fun _ => fun
  | [d1, d2] => { results := [.lit (.bool true)], args := [d1, d2] }
  | _ => none }
def fnExactCompileFileRow : OpenClaim := { program := "ytebfafefeajemaa", sum := "d7949ce9044264d419c625241822beba72e1fb8b8d72c8bcaf81a2bbe78ea890", func := "loop.example/importhouse/laws.FnExactCompileFile", spec := "fnExactCompileFile", plainKeys := false, apart := false }
def FnExactCompileFileSaid : Prop := fnExactCompileFileRow.holds Try.pinned (OpenSpec.ofChange fnExactCompileFileSpec)

/-- ITS FALSE NEIGHBOUR: 'it returns false'. Refute it at one input. -/
def fnExactCompileFileWrong : ChangeSpec := { name := "fnExactCompileFile", fn := fun _ => fun
  | [d1, d2] => { results := [.lit (.bool false)], args := [d1, d2] }
  | _ => none }
def FnExactCompileFileWrongFalsely : Prop := fnExactCompileFileRow.holds Try.pinned (OpenSpec.ofChange fnExactCompileFileWrong)

/-- 'laws.FnExactIsUsable': WHATEVER THE INPUT: true; the input reads as it did. -/
def fnExactIsUsableSpec : ChangeSpec := { name := "fnExactIsUsable", fn := fun _ => fun
  | [d1, d2] => { results := [.lit (.bool true)], args := [d1, d2] }
  | _ => none }
def fnExactIsUsableRow : OpenClaim := { program := "ytebfafefeajemaa", sum := "d7949ce9044264d419c625241822beba72e1fb8b8d72c8bcaf81a2bbe78ea890", func := "loop.example/importhouse/laws.FnExactIsUsable", spec := "fnExactIsUsable", plainKeys := false, apart := false }
def FnExactIsUsableSaid : Prop := fnExactIsUsableRow.holds Try.pinned (OpenSpec.ofChange fnExactIsUsableSpec)

/-- ITS FALSE NEIGHBOUR: 'it returns false'. Refute it at one input. -/
def fnExactIsUsableWrong : ChangeSpec := { name := "fnExactIsUsable", fn := fun _ => fun
  | [d1, d2] => { results := [.lit (.bool false)], args := [d1, d2] }
  | _ => none }
def FnExactIsUsableWrongFalsely : Prop := fnExactIsUsableRow.holds Try.pinned (OpenSpec.ofChange fnExactIsUsableWrong)

/-- 'laws.FnExactLoadBody': WHATEVER THE INPUT: true; the input reads as it did. -/
def fnExactLoadBodySpec : ChangeSpec := { name := "fnExactLoadBody", fn := fun _ => fun
  | [d1, d2, d3] => { results := [.lit (.bool true)], args := [d1, d2, d3] }
  | _ => none }
def fnExactLoadBodyRow : OpenClaim := { program := "ytebfafefeajemaa", sum := "d7949ce9044264d419c625241822beba72e1fb8b8d72c8bcaf81a2bbe78ea890", func := "loop.example/importhouse/laws.FnExactLoadBody", spec := "fnExactLoadBody", unfollowed := true, recurses := true, plainKeys := false, apart := false }
def FnExactLoadBodySaid : Prop := fnExactLoadBodyRow.holds Try.pinned (OpenSpec.ofChange fnExactLoadBodySpec)

/-- ITS FALSE NEIGHBOUR: 'it returns false'. Refute it at one input. -/
def fnExactLoadBodyWrong : ChangeSpec := { name := "fnExactLoadBody", fn := fun _ => fun
  | [d1, d2, d3] => { results := [.lit (.bool false)], args := [d1, d2, d3] }
  | _ => none }
def FnExactLoadBodyWrongFalsely : Prop := fnExactLoadBodyRow.holds Try.pinned (OpenSpec.ofChange fnExactLoadBodyWrong)

/-- 'laws.FnExactCompileTree': WHATEVER THE INPUT: true; the input reads as it did. -/
def fnExactCompileTreeSpec : ChangeSpec := { name := "fnExactCompileTree", fn := fun _ => fun
  | [d1, d2] => { results := [.lit (.bool true)], args := [d1, d2] }
  | _ => none }
def fnExactCompileTreeRow : OpenClaim := { program := "ytebfafefeajemaa", sum := "d7949ce9044264d419c625241822beba72e1fb8b8d72c8bcaf81a2bbe78ea890", func := "loop.example/importhouse/laws.FnExactCompileTree", spec := "fnExactCompileTree", plainKeys := false, apart := false }
def FnExactCompileTreeSaid : Prop := fnExactCompileTreeRow.holds Try.pinned (OpenSpec.ofChange fnExactCompileTreeSpec)

/-- ITS FALSE NEIGHBOUR: 'it returns false'. Refute it at one input. -/
def fnExactCompileTreeWrong : ChangeSpec := { name := "fnExactCompileTree", fn := fun _ => fun
  | [d1, d2] => { results := [.lit (.bool false)], args := [d1, d2] }
  | _ => none }
def FnExactCompileTreeWrongFalsely : Prop := fnExactCompileTreeRow.holds Try.pinned (OpenSpec.ofChange fnExactCompileTreeWrong)

/-- 'laws.FnExactWrongFiles': WHATEVER THE INPUT: true; the input reads as it did. -/
def fnExactWrongFilesSpec : ChangeSpec := { name := "fnExactWrongFiles", fn := fun _ => fun
  | [d1, d2] => { results := [.lit (.bool true)], args := [d1, d2] }
  | _ => none }
def fnExactWrongFilesRow : OpenClaim := { program := "ytebfafefeajemaa", sum := "d7949ce9044264d419c625241822beba72e1fb8b8d72c8bcaf81a2bbe78ea890", func := "loop.example/importhouse/laws.FnExactWrongFiles", spec := "fnExactWrongFiles", unfollowed := true, recurses := true, plainKeys := false, apart := false }
def FnExactWrongFilesSaid : Prop := fnExactWrongFilesRow.holds Try.pinned (OpenSpec.ofChange fnExactWrongFilesSpec)

/-- ITS FALSE NEIGHBOUR: 'it returns false'. Refute it at one input. -/
def fnExactWrongFilesWrong : ChangeSpec := { name := "fnExactWrongFiles", fn := fun _ => fun
  | [d1, d2] => { results := [.lit (.bool false)], args := [d1, d2] }
  | _ => none }
def FnExactWrongFilesWrongFalsely : Prop := fnExactWrongFilesRow.holds Try.pinned (OpenSpec.ofChange fnExactWrongFilesWrong)

/-- 'laws.FnExactPruneStore': WHATEVER THE INPUT: true; the input reads as it did. -/
def fnExactPruneStoreSpec : ChangeSpec := { name := "fnExactPruneStore", fn := fun _ => fun
  | [d1, d2] => { results := [.lit (.bool true)], args := [d1, d2] }
  | _ => none }
def fnExactPruneStoreRow : OpenClaim := { program := "ytebfafefeajemaa", sum := "d7949ce9044264d419c625241822beba72e1fb8b8d72c8bcaf81a2bbe78ea890", func := "loop.example/importhouse/laws.FnExactPruneStore", spec := "fnExactPruneStore", unfollowed := true, recurses := true, plainKeys := false, apart := false }
def FnExactPruneStoreSaid : Prop := fnExactPruneStoreRow.holds Try.pinned (OpenSpec.ofChange fnExactPruneStoreSpec)

/-- ITS FALSE NEIGHBOUR: 'it returns false'. Refute it at one input. -/
def fnExactPruneStoreWrong : ChangeSpec := { name := "fnExactPruneStore", fn := fun _ => fun
  | [d1, d2] => { results := [.lit (.bool false)], args := [d1, d2] }
  | _ => none }
def FnExactPruneStoreWrongFalsely : Prop := fnExactPruneStoreRow.holds Try.pinned (OpenSpec.ofChange fnExactPruneStoreWrong)

/-- 'laws.FnCompileFile': WHATEVER THE INPUT: true; the input reads as it did. -/
def fnCompileFileSpec : ChangeSpec := { name := "fnCompileFile", fn := fun _ => fun
  | [d] => { results := [.lit (.bool true)], args := [d] }
  | _ => none }
def fnCompileFileRow : OpenClaim := { program := "ytebfafefeajemaa", sum := "d7949ce9044264d419c625241822beba72e1fb8b8d72c8bcaf81a2bbe78ea890", func := "loop.example/importhouse/laws.FnCompileFile", spec := "fnCompileFile", unfollowed := true, recurses := true, plainKeys := false, apart := false }
def FnCompileFileSaid : Prop := fnCompileFileRow.holds Try.pinned (OpenSpec.ofChange fnCompileFileSpec)

/-- ITS FALSE NEIGHBOUR: 'it returns false'. Refute it at one input. -/
def fnCompileFileWrong : ChangeSpec := { name := "fnCompileFile", fn := fun _ => fun
  | [d] => { results := [.lit (.bool false)], args := [d] }
  | _ => none }
def FnCompileFileWrongFalsely : Prop := fnCompileFileRow.holds Try.pinned (OpenSpec.ofChange fnCompileFileWrong)

/-- 'laws.FnIsUsable': WHATEVER THE INPUT: true; the input reads as it did. -/
def fnIsUsableSpec : ChangeSpec := { name := "fnIsUsable", fn := fun _ => fun
  | [d] => { results := [.lit (.bool true)], args := [d] }
  | _ => none }
def fnIsUsableRow : OpenClaim := { program := "ytebfafefeajemaa", sum := "d7949ce9044264d419c625241822beba72e1fb8b8d72c8bcaf81a2bbe78ea890", func := "loop.example/importhouse/laws.FnIsUsable", spec := "fnIsUsable", plainKeys := false, apart := false }
def FnIsUsableSaid : Prop := fnIsUsableRow.holds Try.pinned (OpenSpec.ofChange fnIsUsableSpec)

/-- ITS FALSE NEIGHBOUR: 'it returns false'. Refute it at one input. -/
def fnIsUsableWrong : ChangeSpec := { name := "fnIsUsable", fn := fun _ => fun
  | [d] => { results := [.lit (.bool false)], args := [d] }
  | _ => none }
def FnIsUsableWrongFalsely : Prop := fnIsUsableRow.holds Try.pinned (OpenSpec.ofChange fnIsUsableWrong)

/-- 'laws.FnValidStore': WHATEVER THE INPUT: true; the input reads as it did. -/
def fnValidStoreSpec : ChangeSpec := { name := "fnValidStore", fn := fun _ => fun
  | [d] => { results := [.lit (.bool true)], args := [d] }
  | _ => none }
def fnValidStoreRow : OpenClaim := { program := "ytebfafefeajemaa", sum := "d7949ce9044264d419c625241822beba72e1fb8b8d72c8bcaf81a2bbe78ea890", func := "loop.example/importhouse/laws.FnValidStore", spec := "fnValidStore", unfollowed := true, recurses := true, plainKeys := false, apart := false }
def FnValidStoreSaid : Prop := fnValidStoreRow.holds Try.pinned (OpenSpec.ofChange fnValidStoreSpec)

/-- ITS FALSE NEIGHBOUR: 'it returns false'. Refute it at one input. -/
def fnValidStoreWrong : ChangeSpec := { name := "fnValidStore", fn := fun _ => fun
  | [d] => { results := [.lit (.bool false)], args := [d] }
  | _ => none }
def FnValidStoreWrongFalsely : Prop := fnValidStoreRow.holds Try.pinned (OpenSpec.ofChange fnValidStoreWrong)

/-- 'laws.FnExactValidCommands': WHATEVER THE INPUT: true; the input reads as it did. -/
def fnExactValidCommandsSpec : ChangeSpec := { name := "fnExactValidCommands", fn := fun _ => fun
  | [d] => { results := [.lit (.bool true)], args := [d] }
  | _ => none }
def fnExactValidCommandsRow : OpenClaim := { program := "ytebfafefeajemaa", sum := "d7949ce9044264d419c625241822beba72e1fb8b8d72c8bcaf81a2bbe78ea890", func := "loop.example/importhouse/laws.FnExactValidCommands", spec := "fnExactValidCommands", plainKeys := false, apart := false }
def FnExactValidCommandsSaid : Prop := fnExactValidCommandsRow.holds Try.pinned (OpenSpec.ofChange fnExactValidCommandsSpec)

/-- ITS FALSE NEIGHBOUR: 'it returns false'. Refute it at one input. -/
def fnExactValidCommandsWrong : ChangeSpec := { name := "fnExactValidCommands", fn := fun _ => fun
  | [d] => { results := [.lit (.bool false)], args := [d] }
  | _ => none }
def FnExactValidCommandsWrongFalsely : Prop := fnExactValidCommandsRow.holds Try.pinned (OpenSpec.ofChange fnExactValidCommandsWrong)

/-- 'laws.FnValidCommands': WHATEVER THE INPUT: true; the input reads as it did. -/
def fnValidCommandsSpec : ChangeSpec := { name := "fnValidCommands", fn := fun _ => fun
  | [d] => { results := [.lit (.bool true)], args := [d] }
  | _ => none }
def fnValidCommandsRow : OpenClaim := { program := "ytebfafefeajemaa", sum := "d7949ce9044264d419c625241822beba72e1fb8b8d72c8bcaf81a2bbe78ea890", func := "loop.example/importhouse/laws.FnValidCommands", spec := "fnValidCommands", plainKeys := false, apart := false }
def FnValidCommandsSaid : Prop := fnValidCommandsRow.holds Try.pinned (OpenSpec.ofChange fnValidCommandsSpec)

/-- ITS FALSE NEIGHBOUR: 'it returns false'. Refute it at one input. -/
def fnValidCommandsWrong : ChangeSpec := { name := "fnValidCommands", fn := fun _ => fun
  | [d] => { results := [.lit (.bool false)], args := [d] }
  | _ => none }
def FnValidCommandsWrongFalsely : Prop := fnValidCommandsRow.holds Try.pinned (OpenSpec.ofChange fnValidCommandsWrong)

/- THE SECOND FORM. 'bulk': how many values and letters a reading holds, each counted each time it is reached (what is shared counts as often as it is met; a slice's spare places count too). A statement '..UptoSaid' is the law's where the arguments, and the package variables that the reading takes, are together of bulk at most 1048576: NARROWER than '..Said'. Prove '..Said' where nothing that the law and all that it calls make is longer than what came in: it says more and counts as full. Else prove '..UptoSaid'. A law counts once. -/
mutual
def uptoBulk {H : Type} : DataW H → Nat
  | .lit (.string bytes) => bytes.length + 1
  | .lit _ => 1
  | .nil => 1
  | .ptr d => uptoBulk d + 1
  | .slice elems spare => uptoBulkAll elems + uptoBulkAll spare + 1
  | .agg parts => uptoBulkAll parts + 1
  | .iface _ d => uptoBulk d + 1
  | .map entries => uptoBulkEntries entries + 1
  | .held _ => 1
def uptoBulkAll {H : Type} : List (DataW H) → Nat
  | [] => 0
  | d :: r => uptoBulk d + uptoBulkAll r
def uptoBulkEntries {H : Type} : List (Lit × DataW H) → Nat
  | [] => 0
  | x :: r => uptoBulkEntry x + uptoBulkEntries r
def uptoBulkEntry {H : Type} : Lit × DataW H → Nat
  | (.string bytes, d) => bytes.length + uptoBulk d + 1
  | (_, d) => uptoBulk d + 1
 end
def uptoSmall : (H : Type) → List (DataW H) → Bool := fun _ ds => decide (uptoBulkAll ds ≤ 1048576)
def OpenSpec.upto (s : _root_.Go.ChangeSpec) : _root_.Go.OpenSpec := { _root_.Go.OpenSpec.ofChange s with cond := some uptoSmall }

/-- 'laws.FnExactCompileFile', WHERE WHAT IT READS IS OF BULK AT MOST 1048576: true; the input reads as it did. -/
def fnExactCompileFileUptoRow : OpenClaim := { program := "ytebfafefeajemaa", sum := "d7949ce9044264d419c625241822beba72e1fb8b8d72c8bcaf81a2bbe78ea890", func := "loop.example/importhouse/laws.FnExactCompileFile", spec := "fnExactCompileFile", plainKeys := false, apart := false, narrowed := true }
def FnExactCompileFileUptoSaid : Prop := fnExactCompileFileUptoRow.holds Try.pinned (OpenSpec.upto fnExactCompileFileSpec)

/-- 'laws.FnExactIsUsable', WHERE WHAT IT READS IS OF BULK AT MOST 1048576: true; the input reads as it did. -/
def fnExactIsUsableUptoRow : OpenClaim := { program := "ytebfafefeajemaa", sum := "d7949ce9044264d419c625241822beba72e1fb8b8d72c8bcaf81a2bbe78ea890", func := "loop.example/importhouse/laws.FnExactIsUsable", spec := "fnExactIsUsable", plainKeys := false, apart := false, narrowed := true }
def FnExactIsUsableUptoSaid : Prop := fnExactIsUsableUptoRow.holds Try.pinned (OpenSpec.upto fnExactIsUsableSpec)

/-- 'laws.FnExactLoadBody', WHERE WHAT IT READS IS OF BULK AT MOST 1048576: true; the input reads as it did. -/
def fnExactLoadBodyUptoRow : OpenClaim := { program := "ytebfafefeajemaa", sum := "d7949ce9044264d419c625241822beba72e1fb8b8d72c8bcaf81a2bbe78ea890", func := "loop.example/importhouse/laws.FnExactLoadBody", spec := "fnExactLoadBody", unfollowed := true, recurses := true, plainKeys := false, apart := false, narrowed := true }
def FnExactLoadBodyUptoSaid : Prop := fnExactLoadBodyUptoRow.holds Try.pinned (OpenSpec.upto fnExactLoadBodySpec)

/-- 'laws.FnExactCompileTree', WHERE WHAT IT READS IS OF BULK AT MOST 1048576: true; the input reads as it did. -/
def fnExactCompileTreeUptoRow : OpenClaim := { program := "ytebfafefeajemaa", sum := "d7949ce9044264d419c625241822beba72e1fb8b8d72c8bcaf81a2bbe78ea890", func := "loop.example/importhouse/laws.FnExactCompileTree", spec := "fnExactCompileTree", plainKeys := false, apart := false, narrowed := true }
def FnExactCompileTreeUptoSaid : Prop := fnExactCompileTreeUptoRow.holds Try.pinned (OpenSpec.upto fnExactCompileTreeSpec)

/-- 'laws.FnExactWrongFiles', WHERE WHAT IT READS IS OF BULK AT MOST 1048576: true; the input reads as it did. -/
def fnExactWrongFilesUptoRow : OpenClaim := { program := "ytebfafefeajemaa", sum := "d7949ce9044264d419c625241822beba72e1fb8b8d72c8bcaf81a2bbe78ea890", func := "loop.example/importhouse/laws.FnExactWrongFiles", spec := "fnExactWrongFiles", unfollowed := true, recurses := true, plainKeys := false, apart := false, narrowed := true }
def FnExactWrongFilesUptoSaid : Prop := fnExactWrongFilesUptoRow.holds Try.pinned (OpenSpec.upto fnExactWrongFilesSpec)

/-- 'laws.FnExactPruneStore', WHERE WHAT IT READS IS OF BULK AT MOST 1048576: true; the input reads as it did. -/
def fnExactPruneStoreUptoRow : OpenClaim := { program := "ytebfafefeajemaa", sum := "d7949ce9044264d419c625241822beba72e1fb8b8d72c8bcaf81a2bbe78ea890", func := "loop.example/importhouse/laws.FnExactPruneStore", spec := "fnExactPruneStore", unfollowed := true, recurses := true, plainKeys := false, apart := false, narrowed := true }
def FnExactPruneStoreUptoSaid : Prop := fnExactPruneStoreUptoRow.holds Try.pinned (OpenSpec.upto fnExactPruneStoreSpec)

/-- 'laws.FnCompileFile', WHERE WHAT IT READS IS OF BULK AT MOST 1048576: true; the input reads as it did. -/
def fnCompileFileUptoRow : OpenClaim := { program := "ytebfafefeajemaa", sum := "d7949ce9044264d419c625241822beba72e1fb8b8d72c8bcaf81a2bbe78ea890", func := "loop.example/importhouse/laws.FnCompileFile", spec := "fnCompileFile", unfollowed := true, recurses := true, plainKeys := false, apart := false, narrowed := true }
def FnCompileFileUptoSaid : Prop := fnCompileFileUptoRow.holds Try.pinned (OpenSpec.upto fnCompileFileSpec)

/-- 'laws.FnIsUsable', WHERE WHAT IT READS IS OF BULK AT MOST 1048576: true; the input reads as it did. -/
def fnIsUsableUptoRow : OpenClaim := { program := "ytebfafefeajemaa", sum := "d7949ce9044264d419c625241822beba72e1fb8b8d72c8bcaf81a2bbe78ea890", func := "loop.example/importhouse/laws.FnIsUsable", spec := "fnIsUsable", plainKeys := false, apart := false, narrowed := true }
def FnIsUsableUptoSaid : Prop := fnIsUsableUptoRow.holds Try.pinned (OpenSpec.upto fnIsUsableSpec)

/-- 'laws.FnValidStore', WHERE WHAT IT READS IS OF BULK AT MOST 1048576: true; the input reads as it did. -/
def fnValidStoreUptoRow : OpenClaim := { program := "ytebfafefeajemaa", sum := "d7949ce9044264d419c625241822beba72e1fb8b8d72c8bcaf81a2bbe78ea890", func := "loop.example/importhouse/laws.FnValidStore", spec := "fnValidStore", unfollowed := true, recurses := true, plainKeys := false, apart := false, narrowed := true }
def FnValidStoreUptoSaid : Prop := fnValidStoreUptoRow.holds Try.pinned (OpenSpec.upto fnValidStoreSpec)

/-- 'laws.FnExactValidCommands', WHERE WHAT IT READS IS OF BULK AT MOST 1048576: true; the input reads as it did. -/
def fnExactValidCommandsUptoRow : OpenClaim := { program := "ytebfafefeajemaa", sum := "d7949ce9044264d419c625241822beba72e1fb8b8d72c8bcaf81a2bbe78ea890", func := "loop.example/importhouse/laws.FnExactValidCommands", spec := "fnExactValidCommands", plainKeys := false, apart := false, narrowed := true }
def FnExactValidCommandsUptoSaid : Prop := fnExactValidCommandsUptoRow.holds Try.pinned (OpenSpec.upto fnExactValidCommandsSpec)

/-- 'laws.FnValidCommands', WHERE WHAT IT READS IS OF BULK AT MOST 1048576: true; the input reads as it did. -/
def fnValidCommandsUptoRow : OpenClaim := { program := "ytebfafefeajemaa", sum := "d7949ce9044264d419c625241822beba72e1fb8b8d72c8bcaf81a2bbe78ea890", func := "loop.example/importhouse/laws.FnValidCommands", spec := "fnValidCommands", plainKeys := false, apart := false, narrowed := true }
def FnValidCommandsUptoSaid : Prop := fnValidCommandsUptoRow.holds Try.pinned (OpenSpec.upto fnValidCommandsSpec)

end Rows
end Go.Proofs.Ytebfafefeajemaa
