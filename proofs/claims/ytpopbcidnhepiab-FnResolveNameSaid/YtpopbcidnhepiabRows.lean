/-
  No cell of these rows narrows 'for every input' (looked for: loops, veiled, ifaces, maps, wideKeys, modest, calm, conditions, laid).
  DERIVED. THE GIVEN ROWS OF THIS SEAT. 6 by the template 'for every input the law returns true; each argument reads behind the call as it read before'; 0 by the template 'total and deterministic' (their statements: YtpopbcidnhepiabTotals.lean).
  GIVEN WITH THE SEED: the statements are not yours to turn. If you find one false, say at which input.
  Laid BY PROGRAM, IN A SANDBOX (cutbox-rows.mjs): the forced cells as the released guide's own fill.sh prints them over the translation a76b6b20af1109de… (all of the seat's roots in one cut). By AI agents, Wed Nov 11 2026. No macro, syntax, notation, axiom, sorry.
-/
import Derived.Test.YtpopbcidnhepiabChecked
import GoSem.Claim
import GoSem.ClaimJoined
import GoSem.ClaimMapViews
import Derived.JoinedTies
import Derived.KernelRfl
namespace Go.Proofs.Ytpopbcidnhepiab
/- THE CELL 'sum', in the pinned program and in every row, IS THE sha256 OF THE DUMP (.gsa) THAT YtpopbcidnhepiabProg.lean LOADS. Nothing in Lean hashes anything: it is a label: what it is worth is what the hold of that sum in a sandbox is worth. -/
noncomputable def Try.pinned : Pinned := { name := "ytpopbcidnhepiab", sum := "a76b6b20af1109de114e9e67efc23a8512c56750488c56d514dfdeaa7527ef43", checked := Try.checked }
namespace Rows
def none {H : Type} : Left H := { results := [], args := [] }

/-- 'laws.FnChildOf': WHATEVER THE INPUT: true; the input reads as it did. -/
def fnChildOfSpec : ChangeSpec := { name := "fnChildOf", fn := fun _ => fun
  | [d] => { results := [.lit (.bool true)], args := [d] }
  | _ => none }
def fnChildOfRow : OpenClaim := { program := "ytpopbcidnhepiab", sum := "a76b6b20af1109de114e9e67efc23a8512c56750488c56d514dfdeaa7527ef43", func := "loop.example/importhouse/laws.FnChildOf", spec := "fnChildOf", apart := false }
def FnChildOfSaid : Prop := fnChildOfRow.holds Try.pinned (OpenSpec.ofChange fnChildOfSpec)

/-- ITS FALSE NEIGHBOUR: 'it returns false'. Refute it at one input. -/
def fnChildOfWrong : ChangeSpec := { name := "fnChildOf", fn := fun _ => fun
  | [d] => { results := [.lit (.bool false)], args := [d] }
  | _ => none }
def FnChildOfWrongFalsely : Prop := fnChildOfRow.holds Try.pinned (OpenSpec.ofChange fnChildOfWrong)

/-- 'laws.FnNamesAbove': WHATEVER THE INPUT: true; the input reads as it did. -/
def fnNamesAboveSpec : ChangeSpec := { name := "fnNamesAbove", fn := fun _ => fun
  | [d] => { results := [.lit (.bool true)], args := [d] }
  | _ => none }
def fnNamesAboveRow : OpenClaim := { program := "ytpopbcidnhepiab", sum := "a76b6b20af1109de114e9e67efc23a8512c56750488c56d514dfdeaa7527ef43", func := "loop.example/importhouse/laws.FnNamesAbove", spec := "fnNamesAbove", apart := false }
def FnNamesAboveSaid : Prop := fnNamesAboveRow.holds Try.pinned (OpenSpec.ofChange fnNamesAboveSpec)

/-- ITS FALSE NEIGHBOUR: 'it returns false'. Refute it at one input. -/
def fnNamesAboveWrong : ChangeSpec := { name := "fnNamesAbove", fn := fun _ => fun
  | [d] => { results := [.lit (.bool false)], args := [d] }
  | _ => none }
def FnNamesAboveWrongFalsely : Prop := fnNamesAboveRow.holds Try.pinned (OpenSpec.ofChange fnNamesAboveWrong)

/-- 'laws.FnIsUnder': WHATEVER THE INPUT: true; the input reads as it did. -/
def fnIsUnderSpec : ChangeSpec := { name := "fnIsUnder", fn := fun _ => fun
  | [d] => { results := [.lit (.bool true)], args := [d] }
  | _ => none }
def fnIsUnderRow : OpenClaim := { program := "ytpopbcidnhepiab", sum := "a76b6b20af1109de114e9e67efc23a8512c56750488c56d514dfdeaa7527ef43", func := "loop.example/importhouse/laws.FnIsUnder", spec := "fnIsUnder", apart := false }
def FnIsUnderSaid : Prop := fnIsUnderRow.holds Try.pinned (OpenSpec.ofChange fnIsUnderSpec)

/-- ITS FALSE NEIGHBOUR: 'it returns false'. Refute it at one input. -/
def fnIsUnderWrong : ChangeSpec := { name := "fnIsUnder", fn := fun _ => fun
  | [d] => { results := [.lit (.bool false)], args := [d] }
  | _ => none }
def FnIsUnderWrongFalsely : Prop := fnIsUnderRow.holds Try.pinned (OpenSpec.ofChange fnIsUnderWrong)

/-- 'laws.FnResolveName': WHATEVER THE INPUT: true; the input reads as it did. -/
def fnResolveNameSpec : ChangeSpec := { name := "fnResolveName", fn := fun _ => fun
  | [d] => { results := [.lit (.bool true)], args := [d] }
  | _ => none }
def fnResolveNameRow : OpenClaim := { program := "ytpopbcidnhepiab", sum := "a76b6b20af1109de114e9e67efc23a8512c56750488c56d514dfdeaa7527ef43", func := "loop.example/importhouse/laws.FnResolveName", spec := "fnResolveName", apart := false }
def FnResolveNameSaid : Prop := fnResolveNameRow.holds Try.pinned (OpenSpec.ofChange fnResolveNameSpec)

/-- ITS FALSE NEIGHBOUR: 'it returns false'. Refute it at one input. -/
def fnResolveNameWrong : ChangeSpec := { name := "fnResolveName", fn := fun _ => fun
  | [d] => { results := [.lit (.bool false)], args := [d] }
  | _ => none }
def FnResolveNameWrongFalsely : Prop := fnResolveNameRow.holds Try.pinned (OpenSpec.ofChange fnResolveNameWrong)

/-- 'laws.FnRelativeName': WHATEVER THE INPUT: true; the input reads as it did. -/
def fnRelativeNameSpec : ChangeSpec := { name := "fnRelativeName", fn := fun _ => fun
  | [d] => { results := [.lit (.bool true)], args := [d] }
  | _ => none }
def fnRelativeNameRow : OpenClaim := { program := "ytpopbcidnhepiab", sum := "a76b6b20af1109de114e9e67efc23a8512c56750488c56d514dfdeaa7527ef43", func := "loop.example/importhouse/laws.FnRelativeName", spec := "fnRelativeName", apart := false }
def FnRelativeNameSaid : Prop := fnRelativeNameRow.holds Try.pinned (OpenSpec.ofChange fnRelativeNameSpec)

/-- ITS FALSE NEIGHBOUR: 'it returns false'. Refute it at one input. -/
def fnRelativeNameWrong : ChangeSpec := { name := "fnRelativeName", fn := fun _ => fun
  | [d] => { results := [.lit (.bool false)], args := [d] }
  | _ => none }
def FnRelativeNameWrongFalsely : Prop := fnRelativeNameRow.holds Try.pinned (OpenSpec.ofChange fnRelativeNameWrong)

/-- 'laws.FnCommonPackage': WHATEVER THE INPUT: true; the input reads as it did. -/
def fnCommonPackageSpec : ChangeSpec := { name := "fnCommonPackage", fn := fun _ => fun
  | [d] => { results := [.lit (.bool true)], args := [d] }
  | _ => none }
def fnCommonPackageRow : OpenClaim := { program := "ytpopbcidnhepiab", sum := "a76b6b20af1109de114e9e67efc23a8512c56750488c56d514dfdeaa7527ef43", func := "loop.example/importhouse/laws.FnCommonPackage", spec := "fnCommonPackage", apart := false }
def FnCommonPackageSaid : Prop := fnCommonPackageRow.holds Try.pinned (OpenSpec.ofChange fnCommonPackageSpec)

/-- ITS FALSE NEIGHBOUR: 'it returns false'. Refute it at one input. -/
def fnCommonPackageWrong : ChangeSpec := { name := "fnCommonPackage", fn := fun _ => fun
  | [d] => { results := [.lit (.bool false)], args := [d] }
  | _ => none }
def FnCommonPackageWrongFalsely : Prop := fnCommonPackageRow.holds Try.pinned (OpenSpec.ofChange fnCommonPackageWrong)

/- THE SECOND FORM. 'bulk': how many values and letters a reading holds, each counted each time it is reached (what is shared counts as often as it is met; a slice's spare places count too). A statement '..UptoSaid' is the law's where the arguments, and the package variables that the reading takes, are together of bulk at most 1048576: NARROWER than '..Said'. Prove '..Said' where nothing that the law and all that it calls make is longer than what came in: it says more and counts as full. Else prove '..UptoSaid'. A law counts once. -/
mutual
def uptoBulk {H : Type} : DataW H → Nat
  | .lit (.string bytes) => bytes.length + 1
  | .lit _ => 1
  | .nil => 1
  | .ptr d => uptoBulk d + 1
  | .slice elems spare => uptoBulkAll elems + uptoBulkAll spare + 1
  | .agg parts => uptoBulkAll parts + 1
  | .iface _ d => uptoBulk d + 1
  | .map entries => uptoBulkEntries entries + 1
  | .held _ => 1
def uptoBulkAll {H : Type} : List (DataW H) → Nat
  | [] => 0
  | d :: r => uptoBulk d + uptoBulkAll r
def uptoBulkEntries {H : Type} : List (Lit × DataW H) → Nat
  | [] => 0
  | x :: r => uptoBulkEntry x + uptoBulkEntries r
def uptoBulkEntry {H : Type} : Lit × DataW H → Nat
  | (.string bytes, d) => bytes.length + uptoBulk d + 1
  | (_, d) => uptoBulk d + 1
 end
def uptoSmall : (H : Type) → List (DataW H) → Bool := fun _ ds => decide (uptoBulkAll ds ≤ 1048576)
def OpenSpec.upto (s : _root_.Go.ChangeSpec) : _root_.Go.OpenSpec := { _root_.Go.OpenSpec.ofChange s with cond := some uptoSmall }

/-- 'laws.FnChildOf', WHERE WHAT IT READS IS OF BULK AT MOST 1048576: true; the input reads as it did. -/
def fnChildOfUptoRow : OpenClaim := { program := "ytpopbcidnhepiab", sum := "a76b6b20af1109de114e9e67efc23a8512c56750488c56d514dfdeaa7527ef43", func := "loop.example/importhouse/laws.FnChildOf", spec := "fnChildOf", apart := false, narrowed := true }
def FnChildOfUptoSaid : Prop := fnChildOfUptoRow.holds Try.pinned (OpenSpec.upto fnChildOfSpec)

/-- 'laws.FnNamesAbove', WHERE WHAT IT READS IS OF BULK AT MOST 1048576: true; the input reads as it did. -/
def fnNamesAboveUptoRow : OpenClaim := { program := "ytpopbcidnhepiab", sum := "a76b6b20af1109de114e9e67efc23a8512c56750488c56d514dfdeaa7527ef43", func := "loop.example/importhouse/laws.FnNamesAbove", spec := "fnNamesAbove", apart := false, narrowed := true }
def FnNamesAboveUptoSaid : Prop := fnNamesAboveUptoRow.holds Try.pinned (OpenSpec.upto fnNamesAboveSpec)

/-- 'laws.FnIsUnder', WHERE WHAT IT READS IS OF BULK AT MOST 1048576: true; the input reads as it did. -/
def fnIsUnderUptoRow : OpenClaim := { program := "ytpopbcidnhepiab", sum := "a76b6b20af1109de114e9e67efc23a8512c56750488c56d514dfdeaa7527ef43", func := "loop.example/importhouse/laws.FnIsUnder", spec := "fnIsUnder", apart := false, narrowed := true }
def FnIsUnderUptoSaid : Prop := fnIsUnderUptoRow.holds Try.pinned (OpenSpec.upto fnIsUnderSpec)

/-- 'laws.FnResolveName', WHERE WHAT IT READS IS OF BULK AT MOST 1048576: true; the input reads as it did. -/
def fnResolveNameUptoRow : OpenClaim := { program := "ytpopbcidnhepiab", sum := "a76b6b20af1109de114e9e67efc23a8512c56750488c56d514dfdeaa7527ef43", func := "loop.example/importhouse/laws.FnResolveName", spec := "fnResolveName", apart := false, narrowed := true }
def FnResolveNameUptoSaid : Prop := fnResolveNameUptoRow.holds Try.pinned (OpenSpec.upto fnResolveNameSpec)

/-- 'laws.FnRelativeName', WHERE WHAT IT READS IS OF BULK AT MOST 1048576: true; the input reads as it did. -/
def fnRelativeNameUptoRow : OpenClaim := { program := "ytpopbcidnhepiab", sum := "a76b6b20af1109de114e9e67efc23a8512c56750488c56d514dfdeaa7527ef43", func := "loop.example/importhouse/laws.FnRelativeName", spec := "fnRelativeName", apart := false, narrowed := true }
def FnRelativeNameUptoSaid : Prop := fnRelativeNameUptoRow.holds Try.pinned (OpenSpec.upto fnRelativeNameSpec)

/-- 'laws.FnCommonPackage', WHERE WHAT IT READS IS OF BULK AT MOST 1048576: true; the input reads as it did. -/
def fnCommonPackageUptoRow : OpenClaim := { program := "ytpopbcidnhepiab", sum := "a76b6b20af1109de114e9e67efc23a8512c56750488c56d514dfdeaa7527ef43", func := "loop.example/importhouse/laws.FnCommonPackage", spec := "fnCommonPackage", apart := false, narrowed := true }
def FnCommonPackageUptoSaid : Prop := fnCommonPackageUptoRow.holds Try.pinned (OpenSpec.upto fnCommonPackageSpec)

end Rows
end Go.Proofs.Ytpopbcidnhepiab
