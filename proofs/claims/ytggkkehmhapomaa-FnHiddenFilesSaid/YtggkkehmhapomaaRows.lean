/-
  No cell of these rows narrows 'for every input' (looked for: loops, veiled, ifaces, maps, wideKeys, modest, calm, conditions, laid).
  DERIVED. THE GIVEN ROWS OF THIS SEAT. 5 by the template 'for every input the law returns true; each argument reads behind the call as it read before'; 0 by the template 'total and deterministic' (their statements: YtggkkehmhapomaaTotals.lean).
  GIVEN WITH THE SEED: the statements are not yours to turn. If you find one false, say at which input.
  Laid BY PROGRAM, IN A SANDBOX (cutbox-rows.mjs): the forced cells as the released guide's own fill.sh prints them over the translation bf3dfd8c9b045688… (all of the seat's roots in one cut). By AI agents, Wed Nov 11 2026. No macro, syntax, notation, axiom, sorry.
-/
import Derived.Test.YtggkkehmhapomaaChecked
import GoSem.Claim
import GoSem.ClaimJoined
import GoSem.ClaimMapViews
import Derived.JoinedTies
import Derived.KernelRfl
namespace Go.Proofs.Ytggkkehmhapomaa
/- THE CELL 'sum', in the pinned program and in every row, IS THE sha256 OF THE DUMP (.gsa) THAT YtggkkehmhapomaaProg.lean LOADS. Nothing in Lean hashes anything: it is a label: what it is worth is what the hold of that sum in a sandbox is worth. -/
noncomputable def Try.pinned : Pinned := { name := "ytggkkehmhapomaa", sum := "bf3dfd8c9b04568868b01f1cc6832872bdbd549fe1fb61c2f0de480f4cc95755", checked := Try.checked }
namespace Rows
def none {H : Type} : Left H := { results := [], args := [] }

/-- 'laws.FnHiddenFiles': WHATEVER THE INPUT: true; the input reads as it did. -/
def fnHiddenFilesSpec : ChangeSpec := { name := "fnHiddenFiles", fn := fun _ => fun
  | [d] => { results := [.lit (.bool true)], args := [d] }
  | _ => none }
def fnHiddenFilesRow : OpenClaim := { program := "ytggkkehmhapomaa", sum := "bf3dfd8c9b04568868b01f1cc6832872bdbd549fe1fb61c2f0de480f4cc95755", func := "loop.example/importhouse/laws.FnHiddenFiles", spec := "fnHiddenFiles", unfollowed := true, recurses := true, plainKeys := false, apart := false }
def FnHiddenFilesSaid : Prop := fnHiddenFilesRow.holds Try.pinned (OpenSpec.ofChange fnHiddenFilesSpec)

/-- ITS FALSE NEIGHBOUR: 'it returns false'. Refute it at one input. -/
def fnHiddenFilesWrong : ChangeSpec := { name := "fnHiddenFiles", fn := fun _ => fun
  | [d] => { results := [.lit (.bool false)], args := [d] }
  | _ => none }
def FnHiddenFilesWrongFalsely : Prop := fnHiddenFilesRow.holds Try.pinned (OpenSpec.ofChange fnHiddenFilesWrong)

/-- 'laws.FnWhoHides': WHATEVER THE INPUT: true; the input reads as it did. -/
def fnWhoHidesSpec : ChangeSpec := { name := "fnWhoHides", fn := fun _ => fun
  | [d] => { results := [.lit (.bool true)], args := [d] }
  | _ => none }
def fnWhoHidesRow : OpenClaim := { program := "ytggkkehmhapomaa", sum := "bf3dfd8c9b04568868b01f1cc6832872bdbd549fe1fb61c2f0de480f4cc95755", func := "loop.example/importhouse/laws.FnWhoHides", spec := "fnWhoHides", unfollowed := true, recurses := true, plainKeys := false, apart := false }
def FnWhoHidesSaid : Prop := fnWhoHidesRow.holds Try.pinned (OpenSpec.ofChange fnWhoHidesSpec)

/-- ITS FALSE NEIGHBOUR: 'it returns false'. Refute it at one input. -/
def fnWhoHidesWrong : ChangeSpec := { name := "fnWhoHides", fn := fun _ => fun
  | [d] => { results := [.lit (.bool false)], args := [d] }
  | _ => none }
def FnWhoHidesWrongFalsely : Prop := fnWhoHidesRow.holds Try.pinned (OpenSpec.ofChange fnWhoHidesWrong)

/-- 'laws.FnIsPackage': WHATEVER THE INPUT: true; the input reads as it did. -/
def fnIsPackageSpec : ChangeSpec := { name := "fnIsPackage", fn := fun _ => fun
  | [d] => { results := [.lit (.bool true)], args := [d] }
  | _ => none }
def fnIsPackageRow : OpenClaim := { program := "ytggkkehmhapomaa", sum := "bf3dfd8c9b04568868b01f1cc6832872bdbd549fe1fb61c2f0de480f4cc95755", func := "loop.example/importhouse/laws.FnIsPackage", spec := "fnIsPackage", unfollowed := true, recurses := true, plainKeys := false, apart := false }
def FnIsPackageSaid : Prop := fnIsPackageRow.holds Try.pinned (OpenSpec.ofChange fnIsPackageSpec)

/-- ITS FALSE NEIGHBOUR: 'it returns false'. Refute it at one input. -/
def fnIsPackageWrong : ChangeSpec := { name := "fnIsPackage", fn := fun _ => fun
  | [d] => { results := [.lit (.bool false)], args := [d] }
  | _ => none }
def FnIsPackageWrongFalsely : Prop := fnIsPackageRow.holds Try.pinned (OpenSpec.ofChange fnIsPackageWrong)

/-- 'laws.FnValidCommands': WHATEVER THE INPUT: true; the input reads as it did. -/
def fnValidCommandsSpec : ChangeSpec := { name := "fnValidCommands", fn := fun _ => fun
  | [d] => { results := [.lit (.bool true)], args := [d] }
  | _ => none }
def fnValidCommandsRow : OpenClaim := { program := "ytggkkehmhapomaa", sum := "bf3dfd8c9b04568868b01f1cc6832872bdbd549fe1fb61c2f0de480f4cc95755", func := "loop.example/importhouse/laws.FnValidCommands", spec := "fnValidCommands", plainKeys := false, apart := false }
def FnValidCommandsSaid : Prop := fnValidCommandsRow.holds Try.pinned (OpenSpec.ofChange fnValidCommandsSpec)

/-- ITS FALSE NEIGHBOUR: 'it returns false'. Refute it at one input. -/
def fnValidCommandsWrong : ChangeSpec := { name := "fnValidCommands", fn := fun _ => fun
  | [d] => { results := [.lit (.bool false)], args := [d] }
  | _ => none }
def FnValidCommandsWrongFalsely : Prop := fnValidCommandsRow.holds Try.pinned (OpenSpec.ofChange fnValidCommandsWrong)

/-- 'laws.FnExactValidCommands': WHATEVER THE INPUT: true; the input reads as it did. -/
def fnExactValidCommandsSpec : ChangeSpec := { name := "fnExactValidCommands", fn := fun _ => fun
  | [d] => { results := [.lit (.bool true)], args := [d] }
  | _ => none }
def fnExactValidCommandsRow : OpenClaim := { program := "ytggkkehmhapomaa", sum := "bf3dfd8c9b04568868b01f1cc6832872bdbd549fe1fb61c2f0de480f4cc95755", func := "loop.example/importhouse/laws.FnExactValidCommands", spec := "fnExactValidCommands", plainKeys := false, apart := false }
def FnExactValidCommandsSaid : Prop := fnExactValidCommandsRow.holds Try.pinned (OpenSpec.ofChange fnExactValidCommandsSpec)

/-- ITS FALSE NEIGHBOUR: 'it returns false'. Refute it at one input. -/
def fnExactValidCommandsWrong : ChangeSpec := { name := "fnExactValidCommands", fn := fun _ => fun
  | [d] => { results := [.lit (.bool false)], args := [d] }
  | _ => none }
def FnExactValidCommandsWrongFalsely : Prop := fnExactValidCommandsRow.holds Try.pinned (OpenSpec.ofChange fnExactValidCommandsWrong)

/- THE SECOND FORM. 'bulk': how many values and letters a reading holds, each counted each time it is reached (what is shared counts as often as it is met; a slice's spare places count too). A statement '..UptoSaid' is the law's where the arguments, and the package variables that the reading takes, are together of bulk at most 1048576: NARROWER than '..Said'. Prove '..Said' where nothing that the law and all that it calls make is longer than what came in: it says more and counts as full. Else prove '..UptoSaid'. A law counts once. -/
mutual
def uptoBulk {H : Type} : DataW H → Nat
  | .lit (.string bytes) => bytes.length + 1
  | .lit _ => 1
  | .nil => 1
  | .ptr d => uptoBulk d + 1
  | .slice elems spare => uptoBulkAll elems + uptoBulkAll spare + 1
  | .agg parts => uptoBulkAll parts + 1
  | .iface _ d => uptoBulk d + 1
  | .map entries => uptoBulkEntries entries + 1
  | .held _ => 1
def uptoBulkAll {H : Type} : List (DataW H) → Nat
  | [] => 0
  | d :: r => uptoBulk d + uptoBulkAll r
def uptoBulkEntries {H : Type} : List (Lit × DataW H) → Nat
  | [] => 0
  | x :: r => uptoBulkEntry x + uptoBulkEntries r
def uptoBulkEntry {H : Type} : Lit × DataW H → Nat
  | (.string bytes, d) => bytes.length + uptoBulk d + 1
  | (_, d) => uptoBulk d + 1
 end
def uptoSmall : (H : Type) → List (DataW H) → Bool := fun _ ds => decide (uptoBulkAll ds ≤ 1048576)
def OpenSpec.upto (s : _root_.Go.ChangeSpec) : _root_.Go.OpenSpec := { _root_.Go.OpenSpec.ofChange s with cond := some uptoSmall }

/-- 'laws.FnHiddenFiles', WHERE WHAT IT READS IS OF BULK AT MOST 1048576: true; the input reads as it did. -/
def fnHiddenFilesUptoRow : OpenClaim := { program := "ytggkkehmhapomaa", sum := "bf3dfd8c9b04568868b01f1cc6832872bdbd549fe1fb61c2f0de480f4cc95755", func := "loop.example/importhouse/laws.FnHiddenFiles", spec := "fnHiddenFiles", unfollowed := true, recurses := true, plainKeys := false, apart := false, narrowed := true }
def FnHiddenFilesUptoSaid : Prop := fnHiddenFilesUptoRow.holds Try.pinned (OpenSpec.upto fnHiddenFilesSpec)

/-- 'laws.FnWhoHides', WHERE WHAT IT READS IS OF BULK AT MOST 1048576: true; the input reads as it did. -/
def fnWhoHidesUptoRow : OpenClaim := { program := "ytggkkehmhapomaa", sum := "bf3dfd8c9b04568868b01f1cc6832872bdbd549fe1fb61c2f0de480f4cc95755", func := "loop.example/importhouse/laws.FnWhoHides", spec := "fnWhoHides", unfollowed := true, recurses := true, plainKeys := false, apart := false, narrowed := true }
def FnWhoHidesUptoSaid : Prop := fnWhoHidesUptoRow.holds Try.pinned (OpenSpec.upto fnWhoHidesSpec)

/-- 'laws.FnIsPackage', WHERE WHAT IT READS IS OF BULK AT MOST 1048576: true; the input reads as it did. -/
def fnIsPackageUptoRow : OpenClaim := { program := "ytggkkehmhapomaa", sum := "bf3dfd8c9b04568868b01f1cc6832872bdbd549fe1fb61c2f0de480f4cc95755", func := "loop.example/importhouse/laws.FnIsPackage", spec := "fnIsPackage", unfollowed := true, recurses := true, plainKeys := false, apart := false, narrowed := true }
def FnIsPackageUptoSaid : Prop := fnIsPackageUptoRow.holds Try.pinned (OpenSpec.upto fnIsPackageSpec)

/-- 'laws.FnValidCommands', WHERE WHAT IT READS IS OF BULK AT MOST 1048576: true; the input reads as it did. -/
def fnValidCommandsUptoRow : OpenClaim := { program := "ytggkkehmhapomaa", sum := "bf3dfd8c9b04568868b01f1cc6832872bdbd549fe1fb61c2f0de480f4cc95755", func := "loop.example/importhouse/laws.FnValidCommands", spec := "fnValidCommands", plainKeys := false, apart := false, narrowed := true }
def FnValidCommandsUptoSaid : Prop := fnValidCommandsUptoRow.holds Try.pinned (OpenSpec.upto fnValidCommandsSpec)

/-- 'laws.FnExactValidCommands', WHERE WHAT IT READS IS OF BULK AT MOST 1048576: true; the input reads as it did. -/
def fnExactValidCommandsUptoRow : OpenClaim := { program := "ytggkkehmhapomaa", sum := "bf3dfd8c9b04568868b01f1cc6832872bdbd549fe1fb61c2f0de480f4cc95755", func := "loop.example/importhouse/laws.FnExactValidCommands", spec := "fnExactValidCommands", plainKeys := false, apart := false, narrowed := true }
def FnExactValidCommandsUptoSaid : Prop := fnExactValidCommandsUptoRow.holds Try.pinned (OpenSpec.upto fnExactValidCommandsSpec)

end Rows
end Go.Proofs.Ytggkkehmhapomaa
