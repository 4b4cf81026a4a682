/-
  No cell of these rows narrows 'for every input' (looked for: loops, veiled, ifaces, maps, wideKeys, modest, calm, conditions, laid).
  DERIVED. THE GIVEN ROWS OF THIS SEAT. 11 by the template 'for every input the law returns true; each argument reads behind the call as it read before'; 0 by the template 'total and deterministic' (their statements: YtomdmkhgkaalnaaTotals.lean).
  GIVEN WITH THE SEED: the statements are not yours to turn. If you find one false, say at which input.
  Laid BY PROGRAM, IN A SANDBOX (cutbox-rows.mjs): the forced cells as the released guide's own fill.sh prints them over the translation 4f9f53b565bd11f1… (all of the seat's roots in one cut). By AI agents, Wed Nov 11 2026. No macro, syntax, notation, axiom, sorry.
-/
import Derived.Test.YtomdmkhgkaalnaaChecked
import GoSem.Claim
import GoSem.ClaimJoined
import GoSem.ClaimMapViews
import Derived.JoinedTies
import Derived.KernelRfl
namespace Go.Proofs.Ytomdmkhgkaalnaa
/- THE CELL 'sum', in the pinned program and in every row, IS THE sha256 OF THE DUMP (.gsa) THAT YtomdmkhgkaalnaaProg.lean LOADS. Nothing in Lean hashes anything: it is a label: what it is worth is what the hold of that sum in a sandbox is worth. -/
noncomputable def Try.pinned : Pinned := { name := "ytomdmkhgkaalnaa", sum := "4f9f53b565bd11f19a96180b7973b84695ef6b57171220fca572df7ca52e6483", checked := Try.checked }
namespace Rows
def none {H : Type} : Left H := { results := [], args := [] }

/-- 'laws.FnExactPruneStore': WHATEVER THE INPUT: true; the input reads as it did. -/
def fnExactPruneStoreSpec : ChangeSpec := { name := "fnExactPruneStore", fn := fun _ => fun
  | [d1, d2] => { results := [.lit (.bool true)], args := [d1, d2] }
  | _ => none }
def fnExactPruneStoreRow : OpenClaim := { program := "ytomdmkhgkaalnaa", sum := "4f9f53b565bd11f19a96180b7973b84695ef6b57171220fca572df7ca52e6483", func := "loop.example/importhouse/laws.FnExactPruneStore", spec := "fnExactPruneStore", unfollowed := true, recurses := true, plainKeys := false, apart := false }
def FnExactPruneStoreSaid : Prop := fnExactPruneStoreRow.holds Try.pinned (OpenSpec.ofChange fnExactPruneStoreSpec)

/-- ITS FALSE NEIGHBOUR: 'it returns false'. Refute it at one input. -/
def fnExactPruneStoreWrong : ChangeSpec := { name := "fnExactPruneStore", fn := fun _ => fun
  | [d1, d2] => { results := [.lit (.bool false)], args := [d1, d2] }
  | _ => none }
def FnExactPruneStoreWrongFalsely : Prop := fnExactPruneStoreRow.holds Try.pinned (OpenSpec.ofChange fnExactPruneStoreWrong)

/-- 'laws.FnExactValidActs': WHATEVER THE INPUT: true; the input reads as it did. -/
def fnExactValidActsSpec : ChangeSpec := { name := "fnExactValidActs", fn := fun _ => fun
  | [d] => { results := [.lit (.bool true)], args := [d] }
  | _ => none }
def fnExactValidActsRow : OpenClaim := { program := "ytomdmkhgkaalnaa", sum := "4f9f53b565bd11f19a96180b7973b84695ef6b57171220fca572df7ca52e6483", func := "loop.example/importhouse/laws.FnExactValidActs", spec := "fnExactValidActs", plainKeys := false, apart := false }
def FnExactValidActsSaid : Prop := fnExactValidActsRow.holds Try.pinned (OpenSpec.ofChange fnExactValidActsSpec)

/-- ITS FALSE NEIGHBOUR: 'it returns false'. Refute it at one input. -/
def fnExactValidActsWrong : ChangeSpec := { name := "fnExactValidActs", fn := fun _ => fun
  | [d] => { results := [.lit (.bool false)], args := [d] }
  | _ => none }
def FnExactValidActsWrongFalsely : Prop := fnExactValidActsRow.holds Try.pinned (OpenSpec.ofChange fnExactValidActsWrong)

/-- 'laws.FnValidStore': WHATEVER THE INPUT: true; the input reads as it did. -/
def fnValidStoreSpec : ChangeSpec := { name := "fnValidStore", fn := fun _ => fun
  | [d] => { results := [.lit (.bool true)], args := [d] }
  | _ => none }
def fnValidStoreRow : OpenClaim := { program := "ytomdmkhgkaalnaa", sum := "4f9f53b565bd11f19a96180b7973b84695ef6b57171220fca572df7ca52e6483", func := "loop.example/importhouse/laws.FnValidStore", spec := "fnValidStore", unfollowed := true, recurses := true, plainKeys := false, apart := false }
def FnValidStoreSaid : Prop := fnValidStoreRow.holds Try.pinned (OpenSpec.ofChange fnValidStoreSpec)

/-- ITS FALSE NEIGHBOUR: 'it returns false'. Refute it at one input. -/
def fnValidStoreWrong : ChangeSpec := { name := "fnValidStore", fn := fun _ => fun
  | [d] => { results := [.lit (.bool false)], args := [d] }
  | _ => none }
def FnValidStoreWrongFalsely : Prop := fnValidStoreRow.holds Try.pinned (OpenSpec.ofChange fnValidStoreWrong)

/-- 'laws.FnIsUsable': WHATEVER THE INPUT: true; the input reads as it did. -/
def fnIsUsableSpec : ChangeSpec := { name := "fnIsUsable", fn := fun _ => fun
  | [d] => { results := [.lit (.bool true)], args := [d] }
  | _ => none }
def fnIsUsableRow : OpenClaim := { program := "ytomdmkhgkaalnaa", sum := "4f9f53b565bd11f19a96180b7973b84695ef6b57171220fca572df7ca52e6483", func := "loop.example/importhouse/laws.FnIsUsable", spec := "fnIsUsable", plainKeys := false, apart := false }
def FnIsUsableSaid : Prop := fnIsUsableRow.holds Try.pinned (OpenSpec.ofChange fnIsUsableSpec)

/-- ITS FALSE NEIGHBOUR: 'it returns false'. Refute it at one input. -/
def fnIsUsableWrong : ChangeSpec := { name := "fnIsUsable", fn := fun _ => fun
  | [d] => { results := [.lit (.bool false)], args := [d] }
  | _ => none }
def FnIsUsableWrongFalsely : Prop := fnIsUsableRow.holds Try.pinned (OpenSpec.ofChange fnIsUsableWrong)

/-- 'laws.FnLoadBody': WHATEVER THE INPUT: true; the input reads as it did. -/
def fnLoadBodySpec : ChangeSpec := { name := "fnLoadBody", fn := fun _ => fun
  | [d] => { results := [.lit (.bool true)], args := [d] }
  | _ => none }
def fnLoadBodyRow : OpenClaim := { program := "ytomdmkhgkaalnaa", sum := "4f9f53b565bd11f19a96180b7973b84695ef6b57171220fca572df7ca52e6483", func := "loop.example/importhouse/laws.FnLoadBody", spec := "fnLoadBody", unfollowed := true, recurses := true, plainKeys := false, apart := false }
def FnLoadBodySaid : Prop := fnLoadBodyRow.holds Try.pinned (OpenSpec.ofChange fnLoadBodySpec)

/-- ITS FALSE NEIGHBOUR: 'it returns false'. Refute it at one input. -/
def fnLoadBodyWrong : ChangeSpec := { name := "fnLoadBody", fn := fun _ => fun
  | [d] => { results := [.lit (.bool false)], args := [d] }
  | _ => none }
def FnLoadBodyWrongFalsely : Prop := fnLoadBodyRow.holds Try.pinned (OpenSpec.ofChange fnLoadBodyWrong)

/-- 'laws.FnLoadBodyTwice': WHATEVER THE INPUT: true; the input reads as it did. -/
def fnLoadBodyTwiceSpec : ChangeSpec := { name := "fnLoadBodyTwice", fn := fun _ => fun
  | [d] => { results := [.lit (.bool true)], args := [d] }
  | _ => none }
def fnLoadBodyTwiceRow : OpenClaim := { program := "ytomdmkhgkaalnaa", sum := "4f9f53b565bd11f19a96180b7973b84695ef6b57171220fca572df7ca52e6483", func := "loop.example/importhouse/laws.FnLoadBodyTwice", spec := "fnLoadBodyTwice", unfollowed := true, recurses := true, plainKeys := false, apart := false }
def FnLoadBodyTwiceSaid : Prop := fnLoadBodyTwiceRow.holds Try.pinned (OpenSpec.ofChange fnLoadBodyTwiceSpec)

/-- ITS FALSE NEIGHBOUR: 'it returns false'. Refute it at one input. -/
def fnLoadBodyTwiceWrong : ChangeSpec := { name := "fnLoadBodyTwice", fn := fun _ => fun
  | [d] => { results := [.lit (.bool false)], args := [d] }
  | _ => none }
def FnLoadBodyTwiceWrongFalsely : Prop := fnLoadBodyTwiceRow.holds Try.pinned (OpenSpec.ofChange fnLoadBodyTwiceWrong)

/-- 'laws.FnLoadBodyHash': WHATEVER THE INPUT: true; the input reads as it did. -/
def fnLoadBodyHashSpec : ChangeSpec := { name := "fnLoadBodyHash", fn := fun _ => fun
  | [d] => { results := [.lit (.bool true)], args := [d] }
  | _ => none }
def fnLoadBodyHashRow : OpenClaim := { program := "ytomdmkhgkaalnaa", sum := "4f9f53b565bd11f19a96180b7973b84695ef6b57171220fca572df7ca52e6483", func := "loop.example/importhouse/laws.FnLoadBodyHash", spec := "fnLoadBodyHash", unfollowed := true, recurses := true, plainKeys := false, apart := false }
def FnLoadBodyHashSaid : Prop := fnLoadBodyHashRow.holds Try.pinned (OpenSpec.ofChange fnLoadBodyHashSpec)

/-- ITS FALSE NEIGHBOUR: 'it returns false'. Refute it at one input. -/
def fnLoadBodyHashWrong : ChangeSpec := { name := "fnLoadBodyHash", fn := fun _ => fun
  | [d] => { results := [.lit (.bool false)], args := [d] }
  | _ => none }
def FnLoadBodyHashWrongFalsely : Prop := fnLoadBodyHashRow.holds Try.pinned (OpenSpec.ofChange fnLoadBodyHashWrong)

/-- 'laws.FnCompileTree': WHATEVER THE INPUT: true; the input reads as it did. -/
def fnCompileTreeSpec : ChangeSpec := { name := "fnCompileTree", fn := fun _ => fun
  | [d] => { results := [.lit (.bool true)], args := [d] }
  | _ => none }
def fnCompileTreeRow : OpenClaim := { program := "ytomdmkhgkaalnaa", sum := "4f9f53b565bd11f19a96180b7973b84695ef6b57171220fca572df7ca52e6483", func := "loop.example/importhouse/laws.FnCompileTree", spec := "fnCompileTree", unfollowed := true, recurses := true, plainKeys := false, apart := false }
def FnCompileTreeSaid : Prop := fnCompileTreeRow.holds Try.pinned (OpenSpec.ofChange fnCompileTreeSpec)

/-- ITS FALSE NEIGHBOUR: 'it returns false'. Refute it at one input. -/
def fnCompileTreeWrong : ChangeSpec := { name := "fnCompileTree", fn := fun _ => fun
  | [d] => { results := [.lit (.bool false)], args := [d] }
  | _ => none }
def FnCompileTreeWrongFalsely : Prop := fnCompileTreeRow.holds Try.pinned (OpenSpec.ofChange fnCompileTreeWrong)

/-- 'laws.FnWrongFiles': WHATEVER THE INPUT: true; the input reads as it did. -/
def fnWrongFilesSpec : ChangeSpec := { name := "fnWrongFiles", fn := fun _ => fun
  | [d] => { results := [.lit (.bool true)], args := [d] }
  | _ => none }
def fnWrongFilesRow : OpenClaim := { program := "ytomdmkhgkaalnaa", sum := "4f9f53b565bd11f19a96180b7973b84695ef6b57171220fca572df7ca52e6483", func := "loop.example/importhouse/laws.FnWrongFiles", spec := "fnWrongFiles", unfollowed := true, recurses := true, plainKeys := false, apart := false }
def FnWrongFilesSaid : Prop := fnWrongFilesRow.holds Try.pinned (OpenSpec.ofChange fnWrongFilesSpec)

/-- ITS FALSE NEIGHBOUR: 'it returns false'. Refute it at one input. -/
def fnWrongFilesWrong : ChangeSpec := { name := "fnWrongFiles", fn := fun _ => fun
  | [d] => { results := [.lit (.bool false)], args := [d] }
  | _ => none }
def FnWrongFilesWrongFalsely : Prop := fnWrongFilesRow.holds Try.pinned (OpenSpec.ofChange fnWrongFilesWrong)

/-- 'laws.FnPruneStore': WHATEVER THE INPUT: true; the input reads as it did. -/
def fnPruneStoreSpec : ChangeSpec := { name := "fnPruneStore", fn := fun _ => fun
  | [d] => { results := [.lit (.bool true)], args := [d] }
  | _ => none }
def fnPruneStoreRow : OpenClaim := { program := "ytomdmkhgkaalnaa", sum := "4f9f53b565bd11f19a96180b7973b84695ef6b57171220fca572df7ca52e6483", func := "loop.example/importhouse/laws.FnPruneStore", spec := "fnPruneStore", unfollowed := true, recurses := true, plainKeys := false, apart := false }
def FnPruneStoreSaid : Prop := fnPruneStoreRow.holds Try.pinned (OpenSpec.ofChange fnPruneStoreSpec)

/-- ITS FALSE NEIGHBOUR: 'it returns false'. Refute it at one input. -/
def fnPruneStoreWrong : ChangeSpec := { name := "fnPruneStore", fn := fun _ => fun
  | [d] => { results := [.lit (.bool false)], args := [d] }
  | _ => none }
def FnPruneStoreWrongFalsely : Prop := fnPruneStoreRow.holds Try.pinned (OpenSpec.ofChange fnPruneStoreWrong)

/-- 'laws.FnValidActs': WHATEVER THE INPUT: true; the input reads as it did. -/
def fnValidActsSpec : ChangeSpec := { name := "fnValidActs", fn := fun _ => fun
  | [d] => { results := [.lit (.bool true)], args := [d] }
  | _ => none }
def fnValidActsRow : OpenClaim := { program := "ytomdmkhgkaalnaa", sum := "4f9f53b565bd11f19a96180b7973b84695ef6b57171220fca572df7ca52e6483", func := "loop.example/importhouse/laws.FnValidActs", spec := "fnValidActs", plainKeys := false, apart := false }
def FnValidActsSaid : Prop := fnValidActsRow.holds Try.pinned (OpenSpec.ofChange fnValidActsSpec)

/-- ITS FALSE NEIGHBOUR: 'it returns false'. Refute it at one input. -/
def fnValidActsWrong : ChangeSpec := { name := "fnValidActs", fn := fun _ => fun
  | [d] => { results := [.lit (.bool false)], args := [d] }
  | _ => none }
def FnValidActsWrongFalsely : Prop := fnValidActsRow.holds Try.pinned (OpenSpec.ofChange fnValidActsWrong)

/- THE SECOND FORM. 'bulk': how many values and letters a reading holds, each counted each time it is reached (what is shared counts as often as it is met; a slice's spare places count too). A statement '..UptoSaid' is the law's where the arguments, and the package variables that the reading takes, are together of bulk at most 1048576: NARROWER than '..Said'. Prove '..Said' where nothing that the law and all that it calls make is longer than what came in: it says more and counts as full. Else prove '..UptoSaid'. A law counts once. -/
mutual
def uptoBulk {H : Type} : DataW H → Nat
  | .lit (.string bytes) => bytes.length + 1
  | .lit _ => 1
  | .nil => 1
  | .ptr d => uptoBulk d + 1
  | .slice elems spare => uptoBulkAll elems + uptoBulkAll spare + 1
  | .agg parts => uptoBulkAll parts + 1
  | .iface _ d => uptoBulk d + 1
  | .map entries => uptoBulkEntries entries + 1
  | .held _ => 1
def uptoBulkAll {H : Type} : List (DataW H) → Nat
  | [] => 0
  | d :: r => uptoBulk d + uptoBulkAll r
def uptoBulkEntries {H : Type} : List (Lit × DataW H) → Nat
  | [] => 0
  | x :: r => uptoBulkEntry x + uptoBulkEntries r
def uptoBulkEntry {H : Type} : Lit × DataW H → Nat
  | (.string bytes, d) => bytes.length + uptoBulk d + 1
  | (_, d) => uptoBulk d + 1
 end
def uptoSmall : (H : Type) → List (DataW H) → Bool := fun _ ds => decide (uptoBulkAll ds ≤ 1048576)
def OpenSpec.upto (s : _root_.Go.ChangeSpec) : _root_.Go.OpenSpec := { _root_.Go.OpenSpec.ofChange s with cond := some uptoSmall }

/-- 'laws.FnExactPruneStore', WHERE WHAT IT READS IS OF BULK AT MOST 1048576: true; the input reads as it did. -/
def fnExactPruneStoreUptoRow : OpenClaim := { program := "ytomdmkhgkaalnaa", sum := "4f9f53b565bd11f19a96180b7973b84695ef6b57171220fca572df7ca52e6483", func := "loop.example/importhouse/laws.FnExactPruneStore", spec := "fnExactPruneStore", unfollowed := true, recurses := true, plainKeys := false, apart := false, narrowed := true }
def FnExactPruneStoreUptoSaid : Prop := fnExactPruneStoreUptoRow.holds Try.pinned (OpenSpec.upto fnExactPruneStoreSpec)

/-- 'laws.FnExactValidActs', WHERE WHAT IT READS IS OF BULK AT MOST 1048576: true; the input reads as it did. -/
def fnExactValidActsUptoRow : OpenClaim := { program := "ytomdmkhgkaalnaa", sum := "4f9f53b565bd11f19a96180b7973b84695ef6b57171220fca572df7ca52e6483", func := "loop.example/importhouse/laws.FnExactValidActs", spec := "fnExactValidActs", plainKeys := false, apart := false, narrowed := true }
def FnExactValidActsUptoSaid : Prop := fnExactValidActsUptoRow.holds Try.pinned (OpenSpec.upto fnExactValidActsSpec)

/-- 'laws.FnValidStore', WHERE WHAT IT READS IS OF BULK AT MOST 1048576: true; the input reads as it did. -/
def fnValidStoreUptoRow : OpenClaim := { program := "ytomdmkhgkaalnaa", sum := "4f9f53b565bd11f19a96180b7973b84695ef6b57171220fca572df7ca52e6483", func := "loop.example/importhouse/laws.FnValidStore", spec := "fnValidStore", unfollowed := true, recurses := true, plainKeys := false, apart := false, narrowed := true }
def FnValidStoreUptoSaid : Prop := fnValidStoreUptoRow.holds Try.pinned (OpenSpec.upto fnValidStoreSpec)

/-- 'laws.FnIsUsable', WHERE WHAT IT READS IS OF BULK AT MOST 1048576: true; the input reads as it did. -/
def fnIsUsableUptoRow : OpenClaim := { program := "ytomdmkhgkaalnaa", sum := "4f9f53b565bd11f19a96180b7973b84695ef6b57171220fca572df7ca52e6483", func := "loop.example/importhouse/laws.FnIsUsable", spec := "fnIsUsable", plainKeys := false, apart := false, narrowed := true }
def FnIsUsableUptoSaid : Prop := fnIsUsableUptoRow.holds Try.pinned (OpenSpec.upto fnIsUsableSpec)

/-- 'laws.FnLoadBody', WHERE WHAT IT READS IS OF BULK AT MOST 1048576: true; the input reads as it did. -/
def fnLoadBodyUptoRow : OpenClaim := { program := "ytomdmkhgkaalnaa", sum := "4f9f53b565bd11f19a96180b7973b84695ef6b57171220fca572df7ca52e6483", func := "loop.example/importhouse/laws.FnLoadBody", spec := "fnLoadBody", unfollowed := true, recurses := true, plainKeys := false, apart := false, narrowed := true }
def FnLoadBodyUptoSaid : Prop := fnLoadBodyUptoRow.holds Try.pinned (OpenSpec.upto fnLoadBodySpec)

/-- 'laws.FnLoadBodyTwice', WHERE WHAT IT READS IS OF BULK AT MOST 1048576: true; the input reads as it did. -/
def fnLoadBodyTwiceUptoRow : OpenClaim := { program := "ytomdmkhgkaalnaa", sum := "4f9f53b565bd11f19a96180b7973b84695ef6b57171220fca572df7ca52e6483", func := "loop.example/importhouse/laws.FnLoadBodyTwice", spec := "fnLoadBodyTwice", unfollowed := true, recurses := true, plainKeys := false, apart := false, narrowed := true }
def FnLoadBodyTwiceUptoSaid : Prop := fnLoadBodyTwiceUptoRow.holds Try.pinned (OpenSpec.upto fnLoadBodyTwiceSpec)

/-- 'laws.FnLoadBodyHash', WHERE WHAT IT READS IS OF BULK AT MOST 1048576: true; the input reads as it did. -/
def fnLoadBodyHashUptoRow : OpenClaim := { program := "ytomdmkhgkaalnaa", sum := "4f9f53b565bd11f19a96180b7973b84695ef6b57171220fca572df7ca52e6483", func := "loop.example/importhouse/laws.FnLoadBodyHash", spec := "fnLoadBodyHash", unfollowed := true, recurses := true, plainKeys := false, apart := false, narrowed := true }
def FnLoadBodyHashUptoSaid : Prop := fnLoadBodyHashUptoRow.holds Try.pinned (OpenSpec.upto fnLoadBodyHashSpec)

/-- 'laws.FnCompileTree', WHERE WHAT IT READS IS OF BULK AT MOST 1048576: true; the input reads as it did. -/
def fnCompileTreeUptoRow : OpenClaim := { program := "ytomdmkhgkaalnaa", sum := "4f9f53b565bd11f19a96180b7973b84695ef6b57171220fca572df7ca52e6483", func := "loop.example/importhouse/laws.FnCompileTree", spec := "fnCompileTree", unfollowed := true, recurses := true, plainKeys := false, apart := false, narrowed := true }
def FnCompileTreeUptoSaid : Prop := fnCompileTreeUptoRow.holds Try.pinned (OpenSpec.upto fnCompileTreeSpec)

/-- 'laws.FnWrongFiles', WHERE WHAT IT READS IS OF BULK AT MOST 1048576: true; the input reads as it did. -/
def fnWrongFilesUptoRow : OpenClaim := { program := "ytomdmkhgkaalnaa", sum := "4f9f53b565bd11f19a96180b7973b84695ef6b57171220fca572df7ca52e6483", func := "loop.example/importhouse/laws.FnWrongFiles", spec := "fnWrongFiles", unfollowed := true, recurses := true, plainKeys := false, apart := false, narrowed := true }
def FnWrongFilesUptoSaid : Prop := fnWrongFilesUptoRow.holds Try.pinned (OpenSpec.upto fnWrongFilesSpec)

/-- 'laws.FnPruneStore', WHERE WHAT IT READS IS OF BULK AT MOST 1048576: true; the input reads as it did. -/
def fnPruneStoreUptoRow : OpenClaim := { program := "ytomdmkhgkaalnaa", sum := "4f9f53b565bd11f19a96180b7973b84695ef6b57171220fca572df7ca52e6483", func := "loop.example/importhouse/laws.FnPruneStore", spec := "fnPruneStore", unfollowed := true, recurses := true, plainKeys := false, apart := false, narrowed := true }
def FnPruneStoreUptoSaid : Prop := fnPruneStoreUptoRow.holds Try.pinned (OpenSpec.upto fnPruneStoreSpec)

/-- 'laws.FnValidActs', WHERE WHAT IT READS IS OF BULK AT MOST 1048576: true; the input reads as it did. -/
def fnValidActsUptoRow : OpenClaim := { program := "ytomdmkhgkaalnaa", sum := "4f9f53b565bd11f19a96180b7973b84695ef6b57171220fca572df7ca52e6483", func := "loop.example/importhouse/laws.FnValidActs", spec := "fnValidActs", plainKeys := false, apart := false, narrowed := true }
def FnValidActsUptoSaid : Prop := fnValidActsUptoRow.holds Try.pinned (OpenSpec.upto fnValidActsSpec)

end Rows
end Go.Proofs.Ytomdmkhgkaalnaa
