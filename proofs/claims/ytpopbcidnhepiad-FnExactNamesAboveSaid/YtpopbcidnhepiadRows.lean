/-
  No cell of these rows narrows 'for every input' (looked for: loops, veiled, ifaces, maps, wideKeys, modest, calm, conditions, laid).
  DERIVED. THE GIVEN ROWS OF THIS SEAT. 6 by the template 'for every input the law returns true; each argument reads behind the call as it read before'; 0 by the template 'total and deterministic' (their statements: YtpopbcidnhepiadTotals.lean).
  GIVEN WITH THE SEED: the statements are not yours to turn. If you find one false, say at which input.
  Laid BY PROGRAM, IN A SANDBOX (cutbox-rows.mjs): the forced cells as the released guide's own fill.sh prints them over the translation 809dad3a4d78cb0a… (all of the seat's roots in one cut). By AI agents, Wed Nov 11 2026. No macro, syntax, notation, axiom, sorry.
-/
import Derived.Test.YtpopbcidnhepiadChecked
import GoSem.Claim
import GoSem.ClaimJoined
import GoSem.ClaimMapViews
import Derived.JoinedTies
import Derived.KernelRfl
namespace Go.Proofs.Ytpopbcidnhepiad
/- THE CELL 'sum', in the pinned program and in every row, IS THE sha256 OF THE DUMP (.gsa) THAT YtpopbcidnhepiadProg.lean LOADS. Nothing in Lean hashes anything: it is a label: what it is worth is what the hold of that sum in a sandbox is worth. -/
noncomputable def Try.pinned : Pinned := { name := "ytpopbcidnhepiad", sum := "809dad3a4d78cb0a838b50254f3422eac55832d5eea6491e00b07ed0dbe90b79", checked := Try.checked }
namespace Rows
def none {H : Type} : Left H := { results := [], args := [] }

/-- 'laws.FnExactChildOf': WHATEVER THE INPUT: true; the input reads as it did. -/
def fnExactChildOfSpec : ChangeSpec := { name := "fnExactChildOf", fn := fun _ => fun
  | [d1, d2] => { results := [.lit (.bool true)], args := [d1, d2] }
  | _ => none }
def fnExactChildOfRow : OpenClaim := { program := "ytpopbcidnhepiad", sum := "809dad3a4d78cb0a838b50254f3422eac55832d5eea6491e00b07ed0dbe90b79", func := "loop.example/importhouse/laws.FnExactChildOf", spec := "fnExactChildOf", apart := false }
def FnExactChildOfSaid : Prop := fnExactChildOfRow.holds Try.pinned (OpenSpec.ofChange fnExactChildOfSpec)

/-- ITS FALSE NEIGHBOUR: 'it returns false'. Refute it at one input. -/
def fnExactChildOfWrong : ChangeSpec := { name := "fnExactChildOf", fn := fun _ => fun
  | [d1, d2] => { results := [.lit (.bool false)], args := [d1, d2] }
  | _ => none }
def FnExactChildOfWrongFalsely : Prop := fnExactChildOfRow.holds Try.pinned (OpenSpec.ofChange fnExactChildOfWrong)

/-- 'laws.FnExactNamesAbove': WHATEVER THE INPUT: true; the input reads as it did. -/
def fnExactNamesAboveSpec : ChangeSpec := { name := "fnExactNamesAbove", fn := fun _ => fun
  | [d] => { results := [.lit (.bool true)], args := [d] }
  | _ => none }
def fnExactNamesAboveRow : OpenClaim := { program := "ytpopbcidnhepiad", sum := "809dad3a4d78cb0a838b50254f3422eac55832d5eea6491e00b07ed0dbe90b79", func := "loop.example/importhouse/laws.FnExactNamesAbove", spec := "fnExactNamesAbove", apart := false }
def FnExactNamesAboveSaid : Prop := fnExactNamesAboveRow.holds Try.pinned (OpenSpec.ofChange fnExactNamesAboveSpec)

/-- ITS FALSE NEIGHBOUR: 'it returns false'. Refute it at one input. -/
def fnExactNamesAboveWrong : ChangeSpec := { name := "fnExactNamesAbove", fn := fun _ => fun
  | [d] => { results := [.lit (.bool false)], args := [d] }
  | _ => none }
def FnExactNamesAboveWrongFalsely : Prop := fnExactNamesAboveRow.holds Try.pinned (OpenSpec.ofChange fnExactNamesAboveWrong)

/-- 'laws.FnExactIsUnder': WHATEVER THE INPUT: true; the input reads as it did. -/
def fnExactIsUnderSpec : ChangeSpec := { name := "fnExactIsUnder", fn := fun _ => fun
  | [d1, d2] => { results := [.lit (.bool true)], args := [d1, d2] }
  | _ => none }
def fnExactIsUnderRow : OpenClaim := { program := "ytpopbcidnhepiad", sum := "809dad3a4d78cb0a838b50254f3422eac55832d5eea6491e00b07ed0dbe90b79", func := "loop.example/importhouse/laws.FnExactIsUnder", spec := "fnExactIsUnder", apart := false }
def FnExactIsUnderSaid : Prop := fnExactIsUnderRow.holds Try.pinned (OpenSpec.ofChange fnExactIsUnderSpec)

/-- ITS FALSE NEIGHBOUR: 'it returns false'. Refute it at one input. -/
def fnExactIsUnderWrong : ChangeSpec := { name := "fnExactIsUnder", fn := fun _ => fun
  | [d1, d2] => { results := [.lit (.bool false)], args := [d1, d2] }
  | _ => none }
def FnExactIsUnderWrongFalsely : Prop := fnExactIsUnderRow.holds Try.pinned (OpenSpec.ofChange fnExactIsUnderWrong)

/-- 'laws.FnExactResolveName': WHATEVER THE INPUT: true; the input reads as it did. -/
def fnExactResolveNameSpec : ChangeSpec := { name := "fnExactResolveName", fn := fun _ => fun
  | [d1, d2, d3] => { results := [.lit (.bool true)], args := [d1, d2, d3] }
  | _ => none }
def fnExactResolveNameRow : OpenClaim := { program := "ytpopbcidnhepiad", sum := "809dad3a4d78cb0a838b50254f3422eac55832d5eea6491e00b07ed0dbe90b79", func := "loop.example/importhouse/laws.FnExactResolveName", spec := "fnExactResolveName", apart := false }
def FnExactResolveNameSaid : Prop := fnExactResolveNameRow.holds Try.pinned (OpenSpec.ofChange fnExactResolveNameSpec)

/-- ITS FALSE NEIGHBOUR: 'it returns false'. Refute it at one input. -/
def fnExactResolveNameWrong : ChangeSpec := { name := "fnExactResolveName", fn := fun _ => fun
  | [d1, d2, d3] => { results := [.lit (.bool false)], args := [d1, d2, d3] }
  | _ => none }
def FnExactResolveNameWrongFalsely : Prop := fnExactResolveNameRow.holds Try.pinned (OpenSpec.ofChange fnExactResolveNameWrong)

/-- 'laws.FnExactRelativeName': WHATEVER THE INPUT: true; the input reads as it did. -/
def fnExactRelativeNameSpec : ChangeSpec := { name := "fnExactRelativeName", fn := fun _ => fun
  | [d1, d2] => { results := [.lit (.bool true)], args := [d1, d2] }
  | _ => none }
def fnExactRelativeNameRow : OpenClaim := { program := "ytpopbcidnhepiad", sum := "809dad3a4d78cb0a838b50254f3422eac55832d5eea6491e00b07ed0dbe90b79", func := "loop.example/importhouse/laws.FnExactRelativeName", spec := "fnExactRelativeName", apart := false }
def FnExactRelativeNameSaid : Prop := fnExactRelativeNameRow.holds Try.pinned (OpenSpec.ofChange fnExactRelativeNameSpec)

/-- ITS FALSE NEIGHBOUR: 'it returns false'. Refute it at one input. -/
def fnExactRelativeNameWrong : ChangeSpec := { name := "fnExactRelativeName", fn := fun _ => fun
  | [d1, d2] => { results := [.lit (.bool false)], args := [d1, d2] }
  | _ => none }
def FnExactRelativeNameWrongFalsely : Prop := fnExactRelativeNameRow.holds Try.pinned (OpenSpec.ofChange fnExactRelativeNameWrong)

/-- 'laws.FnExactCommonPackage': WHATEVER THE INPUT: true; the input reads as it did. -/
def fnExactCommonPackageSpec : ChangeSpec := { name := "fnExactCommonPackage", fn := fun _ => fun
  | [d1, d2] => { results := [.lit (.bool true)], args := [d1, d2] }
  | _ => none }
def fnExactCommonPackageRow : OpenClaim := { program := "ytpopbcidnhepiad", sum := "809dad3a4d78cb0a838b50254f3422eac55832d5eea6491e00b07ed0dbe90b79", func := "loop.example/importhouse/laws.FnExactCommonPackage", spec := "fnExactCommonPackage", apart := false }
def FnExactCommonPackageSaid : Prop := fnExactCommonPackageRow.holds Try.pinned (OpenSpec.ofChange fnExactCommonPackageSpec)

/-- ITS FALSE NEIGHBOUR: 'it returns false'. Refute it at one input. -/
def fnExactCommonPackageWrong : ChangeSpec := { name := "fnExactCommonPackage", fn := fun _ => fun
  | [d1, d2] => { results := [.lit (.bool false)], args := [d1, d2] }
  | _ => none }
def FnExactCommonPackageWrongFalsely : Prop := fnExactCommonPackageRow.holds Try.pinned (OpenSpec.ofChange fnExactCommonPackageWrong)

/- THE SECOND FORM. 'bulk': how many values and letters a reading holds, each counted each time it is reached (what is shared counts as often as it is met; a slice's spare places count too). A statement '..UptoSaid' is the law's where the arguments, and the package variables that the reading takes, are together of bulk at most 1048576: NARROWER than '..Said'. Prove '..Said' where nothing that the law and all that it calls make is longer than what came in: it says more and counts as full. Else prove '..UptoSaid'. A law counts once. -/
mutual
def uptoBulk {H : Type} : DataW H → Nat
  | .lit (.string bytes) => bytes.length + 1
  | .lit _ => 1
  | .nil => 1
  | .ptr d => uptoBulk d + 1
  | .slice elems spare => uptoBulkAll elems + uptoBulkAll spare + 1
  | .agg parts => uptoBulkAll parts + 1
  | .iface _ d => uptoBulk d + 1
  | .map entries => uptoBulkEntries entries + 1
  | .held _ => 1
def uptoBulkAll {H : Type} : List (DataW H) → Nat
  | [] => 0
  | d :: r => uptoBulk d + uptoBulkAll r
def uptoBulkEntries {H : Type} : List (Lit × DataW H) → Nat
  | [] => 0
  | x :: r => uptoBulkEntry x + uptoBulkEntries r
def uptoBulkEntry {H : Type} : Lit × DataW H → Nat
  | (.string bytes, d) => bytes.length + uptoBulk d + 1
  | (_, d) => uptoBulk d + 1
 end
def uptoSmall : (H : Type) → List (DataW H) → Bool := fun _ ds => decide (uptoBulkAll ds ≤ 1048576)
def OpenSpec.upto (s : _root_.Go.ChangeSpec) : _root_.Go.OpenSpec := { _root_.Go.OpenSpec.ofChange s with cond := some uptoSmall }

/-- 'laws.FnExactChildOf', WHERE WHAT IT READS IS OF BULK AT MOST 1048576: true; the input reads as it did. -/
def fnExactChildOfUptoRow : OpenClaim := { program := "ytpopbcidnhepiad", sum := "809dad3a4d78cb0a838b50254f3422eac55832d5eea6491e00b07ed0dbe90b79", func := "loop.example/importhouse/laws.FnExactChildOf", spec := "fnExactChildOf", apart := false, narrowed := true }
def FnExactChildOfUptoSaid : Prop := fnExactChildOfUptoRow.holds Try.pinned (OpenSpec.upto fnExactChildOfSpec)

/-- 'laws.FnExactNamesAbove', WHERE WHAT IT READS IS OF BULK AT MOST 1048576: true; the input reads as it did. -/
def fnExactNamesAboveUptoRow : OpenClaim := { program := "ytpopbcidnhepiad", sum := "809dad3a4d78cb0a838b50254f3422eac55832d5eea6491e00b07ed0dbe90b79", func := "loop.example/importhouse/laws.FnExactNamesAbove", spec := "fnExactNamesAbove", apart := false, narrowed := true }
def FnExactNamesAboveUptoSaid : Prop := fnExactNamesAboveUptoRow.holds Try.pinned (OpenSpec.upto fnExactNamesAboveSpec)

/-- 'laws.FnExactIsUnder', WHERE WHAT IT READS IS OF BULK AT MOST 1048576: true; the input reads as it did. -/
def fnExactIsUnderUptoRow : OpenClaim := { program := "ytpopbcidnhepiad", sum := "809dad3a4d78cb0a838b50254f3422eac55832d5eea6491e00b07ed0dbe90b79", func := "loop.example/importhouse/laws.FnExactIsUnder", spec := "fnExactIsUnder", apart := false, narrowed := true }
def FnExactIsUnderUptoSaid : Prop := fnExactIsUnderUptoRow.holds Try.pinned (OpenSpec.upto fnExactIsUnderSpec)

/-- 'laws.FnExactResolveName', WHERE WHAT IT READS IS OF BULK AT MOST 1048576: true; the input reads as it did. -/
def fnExactResolveNameUptoRow : OpenClaim := { program := "ytpopbcidnhepiad", sum := "809dad3a4d78cb0a838b50254f3422eac55832d5eea6491e00b07ed0dbe90b79", func := "loop.example/importhouse/laws.FnExactResolveName", spec := "fnExactResolveName", apart := false, narrowed := true }
def FnExactResolveNameUptoSaid : Prop := fnExactResolveNameUptoRow.holds Try.pinned (OpenSpec.upto fnExactResolveNameSpec)

/-- 'laws.FnExactRelativeName', WHERE WHAT IT READS IS OF BULK AT MOST 1048576: true; the input reads as it did. -/
def fnExactRelativeNameUptoRow : OpenClaim := { program := "ytpopbcidnhepiad", sum := "809dad3a4d78cb0a838b50254f3422eac55832d5eea6491e00b07ed0dbe90b79", func := "loop.example/importhouse/laws.FnExactRelativeName", spec := "fnExactRelativeName", apart := false, narrowed := true }
def FnExactRelativeNameUptoSaid : Prop := fnExactRelativeNameUptoRow.holds Try.pinned (OpenSpec.upto fnExactRelativeNameSpec)

/-- 'laws.FnExactCommonPackage', WHERE WHAT IT READS IS OF BULK AT MOST 1048576: true; the input reads as it did. -/
def fnExactCommonPackageUptoRow : OpenClaim := { program := "ytpopbcidnhepiad", sum := "809dad3a4d78cb0a838b50254f3422eac55832d5eea6491e00b07ed0dbe90b79", func := "loop.example/importhouse/laws.FnExactCommonPackage", spec := "fnExactCommonPackage", apart := false, narrowed := true }
def FnExactCommonPackageUptoSaid : Prop := fnExactCommonPackageUptoRow.holds Try.pinned (OpenSpec.upto fnExactCommonPackageSpec)

end Rows
end Go.Proofs.Ytpopbcidnhepiad
