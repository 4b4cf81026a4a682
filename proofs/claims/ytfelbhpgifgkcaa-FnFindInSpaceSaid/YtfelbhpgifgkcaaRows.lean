/-
  No cell of these rows narrows 'for every input' (looked for: loops, veiled, ifaces, maps, wideKeys, modest, calm, conditions, laid).
  DERIVED. THE GIVEN ROWS OF THIS SEAT. 7 by the template 'for every input the law returns true; each argument reads behind the call as it read before'; 0 by the template 'total and deterministic' (their statements: YtfelbhpgifgkcaaTotals.lean).
  GIVEN WITH THE SEED: the statements are not yours to turn. If you find one false, say at which input.
  Laid BY PROGRAM, IN A SANDBOX (cutbox-rows.mjs): the forced cells as the released guide's own fill.sh prints them over the translation 009d742ea7fe0237… (all of the seat's roots in one cut). By AI agents, Wed Nov 11 2026. No macro, syntax, notation, axiom, sorry.
-/
import Derived.Test.YtfelbhpgifgkcaaChecked
import GoSem.Claim
import GoSem.ClaimJoined
import GoSem.ClaimMapViews
import Derived.JoinedTies
import Derived.KernelRfl
namespace Go.Proofs.Ytfelbhpgifgkcaa
/- THE CELL 'sum', in the pinned program and in every row, IS THE sha256 OF THE DUMP (.gsa) THAT YtfelbhpgifgkcaaProg.lean LOADS. Nothing in Lean hashes anything: it is a label: what it is worth is what the hold of that sum in a sandbox is worth. -/
noncomputable def Try.pinned : Pinned := { name := "ytfelbhpgifgkcaa", sum := "009d742ea7fe02378d6c7e135619db3e768f6e004b3e28b190d4924acd283fc8", checked := Try.checked }
namespace Rows
def none {H : Type} : Left H := { results := [], args := [] }

/-- 'laws.FnWhoHides': WHATEVER THE INPUT: true; the input reads as it did. -/
def fnWhoHidesSpec : ChangeSpec := { name := "fnWhoHides", fn := fun _ => fun
  | [d] => { results := [.lit (.bool true)], args := [d] }
  | _ => none }
def fnWhoHidesRow : OpenClaim := { program := "ytfelbhpgifgkcaa", sum := "009d742ea7fe02378d6c7e135619db3e768f6e004b3e28b190d4924acd283fc8", func := "loop.example/importhouse/laws.FnWhoHides", spec := "fnWhoHides", unfollowed := true, recurses := true, plainKeys := false, apart := false }
def FnWhoHidesSaid : Prop := fnWhoHidesRow.holds Try.pinned (OpenSpec.ofChange fnWhoHidesSpec)

/-- ITS FALSE NEIGHBOUR: 'it returns false'. Refute it at one input. -/
def fnWhoHidesWrong : ChangeSpec := { name := "fnWhoHides", fn := fun _ => fun
  | [d] => { results := [.lit (.bool false)], args := [d] }
  | _ => none }
def FnWhoHidesWrongFalsely : Prop := fnWhoHidesRow.holds Try.pinned (OpenSpec.ofChange fnWhoHidesWrong)

/-- 'laws.FnAddFile': WHATEVER THE INPUT: true; the input reads as it did. -/
def fnAddFileSpec : ChangeSpec := { name := "fnAddFile", fn := fun _ => fun
  | [d] => { results := [.lit (.bool true)], args := [d] }
  | _ => none }
def fnAddFileRow : OpenClaim := { program := "ytfelbhpgifgkcaa", sum := "009d742ea7fe02378d6c7e135619db3e768f6e004b3e28b190d4924acd283fc8", func := "loop.example/importhouse/laws.FnAddFile", spec := "fnAddFile", recurses := true, plainKeys := false, apart := false }
def FnAddFileSaid : Prop := fnAddFileRow.holds Try.pinned (OpenSpec.ofChange fnAddFileSpec)

/-- ITS FALSE NEIGHBOUR: 'it returns false'. Refute it at one input. -/
def fnAddFileWrong : ChangeSpec := { name := "fnAddFile", fn := fun _ => fun
  | [d] => { results := [.lit (.bool false)], args := [d] }
  | _ => none }
def FnAddFileWrongFalsely : Prop := fnAddFileRow.holds Try.pinned (OpenSpec.ofChange fnAddFileWrong)

/-- 'laws.FnFindIn': WHATEVER THE INPUT: true; the input reads as it did. -/
def fnFindInSpec : ChangeSpec := { name := "fnFindIn", fn := fun _ => fun
  | [d] => { results := [.lit (.bool true)], args := [d] }
  | _ => none }
def fnFindInRow : OpenClaim := { program := "ytfelbhpgifgkcaa", sum := "009d742ea7fe02378d6c7e135619db3e768f6e004b3e28b190d4924acd283fc8", func := "loop.example/importhouse/laws.FnFindIn", spec := "fnFindIn", unfollowed := true, recurses := true, plainKeys := false, apart := false }
def FnFindInSaid : Prop := fnFindInRow.holds Try.pinned (OpenSpec.ofChange fnFindInSpec)

/-- ITS FALSE NEIGHBOUR: 'it returns false'. Refute it at one input. -/
def fnFindInWrong : ChangeSpec := { name := "fnFindIn", fn := fun _ => fun
  | [d] => { results := [.lit (.bool false)], args := [d] }
  | _ => none }
def FnFindInWrongFalsely : Prop := fnFindInRow.holds Try.pinned (OpenSpec.ofChange fnFindInWrong)

/-- 'laws.FnFindInSpace': WHATEVER THE INPUT: true; the input reads as it did. -/
def fnFindInSpaceSpec : ChangeSpec := { name := "fnFindInSpace", fn := fun _ => fun
  | [d] => { results := [.lit (.bool true)], args := [d] }
  | _ => none }
def fnFindInSpaceRow : OpenClaim := { program := "ytfelbhpgifgkcaa", sum := "009d742ea7fe02378d6c7e135619db3e768f6e004b3e28b190d4924acd283fc8", func := "loop.example/importhouse/laws.FnFindInSpace", spec := "fnFindInSpace", unfollowed := true, recurses := true, plainKeys := false, apart := false }
def FnFindInSpaceSaid : Prop := fnFindInSpaceRow.holds Try.pinned (OpenSpec.ofChange fnFindInSpaceSpec)

/-- ITS FALSE NEIGHBOUR: 'it returns false'. Refute it at one input. -/
def fnFindInSpaceWrong : ChangeSpec := { name := "fnFindInSpace", fn := fun _ => fun
  | [d] => { results := [.lit (.bool false)], args := [d] }
  | _ => none }
def FnFindInSpaceWrongFalsely : Prop := fnFindInSpaceRow.holds Try.pinned (OpenSpec.ofChange fnFindInSpaceWrong)

/-- 'laws.FnFindSpec': WHATEVER THE INPUT: true; the input reads as it did. -/
def fnFindSpecSpec : ChangeSpec := { name := "fnFindSpec", fn := fun _ => fun
  | [d] => { results := [.lit (.bool true)], args := [d] }
  | _ => none }
def fnFindSpecRow : OpenClaim := { program := "ytfelbhpgifgkcaa", sum := "009d742ea7fe02378d6c7e135619db3e768f6e004b3e28b190d4924acd283fc8", func := "loop.example/importhouse/laws.FnFindSpec", spec := "fnFindSpec", unfollowed := true, recurses := true, plainKeys := false, apart := false }
def FnFindSpecSaid : Prop := fnFindSpecRow.holds Try.pinned (OpenSpec.ofChange fnFindSpecSpec)

/-- ITS FALSE NEIGHBOUR: 'it returns false'. Refute it at one input. -/
def fnFindSpecWrong : ChangeSpec := { name := "fnFindSpec", fn := fun _ => fun
  | [d] => { results := [.lit (.bool false)], args := [d] }
  | _ => none }
def FnFindSpecWrongFalsely : Prop := fnFindSpecRow.holds Try.pinned (OpenSpec.ofChange fnFindSpecWrong)

/-- 'laws.FnExactDiskAdd': WHATEVER THE INPUT: true; the input reads as it did. -/
def fnExactDiskAddSpec : ChangeSpec := { name := "fnExactDiskAdd", fn := fun _ => fun
  | [d1, d2, d3] => { results := [.lit (.bool true)], args := [d1, d2, d3] }
  | _ => none }
def fnExactDiskAddRow : OpenClaim := { program := "ytfelbhpgifgkcaa", sum := "009d742ea7fe02378d6c7e135619db3e768f6e004b3e28b190d4924acd283fc8", func := "loop.example/importhouse/laws.FnExactDiskAdd", spec := "fnExactDiskAdd", plainKeys := false, apart := false }
def FnExactDiskAddSaid : Prop := fnExactDiskAddRow.holds Try.pinned (OpenSpec.ofChange fnExactDiskAddSpec)

/-- ITS FALSE NEIGHBOUR: 'it returns false'. Refute it at one input. -/
def fnExactDiskAddWrong : ChangeSpec := { name := "fnExactDiskAdd", fn := fun _ => fun
  | [d1, d2, d3] => { results := [.lit (.bool false)], args := [d1, d2, d3] }
  | _ => none }
def FnExactDiskAddWrongFalsely : Prop := fnExactDiskAddRow.holds Try.pinned (OpenSpec.ofChange fnExactDiskAddWrong)

/-- 'laws.FnExactDiskRemove': WHATEVER THE INPUT: true; the input reads as it did. -/
def fnExactDiskRemoveSpec : ChangeSpec := { name := "fnExactDiskRemove", fn := fun _ => fun
  | [d1, d2, d3] => { results := [.lit (.bool true)], args := [d1, d2, d3] }
  | _ => none }
def fnExactDiskRemoveRow : OpenClaim := { program := "ytfelbhpgifgkcaa", sum := "009d742ea7fe02378d6c7e135619db3e768f6e004b3e28b190d4924acd283fc8", func := "loop.example/importhouse/laws.FnExactDiskRemove", spec := "fnExactDiskRemove", plainKeys := false, apart := false }
def FnExactDiskRemoveSaid : Prop := fnExactDiskRemoveRow.holds Try.pinned (OpenSpec.ofChange fnExactDiskRemoveSpec)

/-- ITS FALSE NEIGHBOUR: 'it returns false'. Refute it at one input. -/
def fnExactDiskRemoveWrong : ChangeSpec := { name := "fnExactDiskRemove", fn := fun _ => fun
  | [d1, d2, d3] => { results := [.lit (.bool false)], args := [d1, d2, d3] }
  | _ => none }
def FnExactDiskRemoveWrongFalsely : Prop := fnExactDiskRemoveRow.holds Try.pinned (OpenSpec.ofChange fnExactDiskRemoveWrong)

/- THE SECOND FORM. 'bulk': how many values and letters a reading holds, each counted each time it is reached (what is shared counts as often as it is met; a slice's spare places count too). A statement '..UptoSaid' is the law's where the arguments, and the package variables that the reading takes, are together of bulk at most 1048576: NARROWER than '..Said'. Prove '..Said' where nothing that the law and all that it calls make is longer than what came in: it says more and counts as full. Else prove '..UptoSaid'. A law counts once. -/
mutual
def uptoBulk {H : Type} : DataW H → Nat
  | .lit (.string bytes) => bytes.length + 1
  | .lit _ => 1
  | .nil => 1
  | .ptr d => uptoBulk d + 1
  | .slice elems spare => uptoBulkAll elems + uptoBulkAll spare + 1
  | .agg parts => uptoBulkAll parts + 1
  | .iface _ d => uptoBulk d + 1
  | .map entries => uptoBulkEntries entries + 1
  | .held _ => 1
def uptoBulkAll {H : Type} : List (DataW H) → Nat
  | [] => 0
  | d :: r => uptoBulk d + uptoBulkAll r
def uptoBulkEntries {H : Type} : List (Lit × DataW H) → Nat
  | [] => 0
  | x :: r => uptoBulkEntry x + uptoBulkEntries r
def uptoBulkEntry {H : Type} : Lit × DataW H → Nat
  | (.string bytes, d) => bytes.length + uptoBulk d + 1
  | (_, d) => uptoBulk d + 1
 end
def uptoSmall : (H : Type) → List (DataW H) → Bool := fun _ ds => decide (uptoBulkAll ds ≤ 1048576)
def OpenSpec.upto (s : _root_.Go.ChangeSpec) : _root_.Go.OpenSpec := { _root_.Go.OpenSpec.ofChange s with cond := some uptoSmall }

/-- 'laws.FnWhoHides', WHERE WHAT IT READS IS OF BULK AT MOST 1048576: true; the input reads as it did. -/
def fnWhoHidesUptoRow : OpenClaim := { program := "ytfelbhpgifgkcaa", sum := "009d742ea7fe02378d6c7e135619db3e768f6e004b3e28b190d4924acd283fc8", func := "loop.example/importhouse/laws.FnWhoHides", spec := "fnWhoHides", unfollowed := true, recurses := true, plainKeys := false, apart := false, narrowed := true }
def FnWhoHidesUptoSaid : Prop := fnWhoHidesUptoRow.holds Try.pinned (OpenSpec.upto fnWhoHidesSpec)

/-- 'laws.FnAddFile', WHERE WHAT IT READS IS OF BULK AT MOST 1048576: true; the input reads as it did. -/
def fnAddFileUptoRow : OpenClaim := { program := "ytfelbhpgifgkcaa", sum := "009d742ea7fe02378d6c7e135619db3e768f6e004b3e28b190d4924acd283fc8", func := "loop.example/importhouse/laws.FnAddFile", spec := "fnAddFile", recurses := true, plainKeys := false, apart := false, narrowed := true }
def FnAddFileUptoSaid : Prop := fnAddFileUptoRow.holds Try.pinned (OpenSpec.upto fnAddFileSpec)

/-- 'laws.FnFindIn', WHERE WHAT IT READS IS OF BULK AT MOST 1048576: true; the input reads as it did. -/
def fnFindInUptoRow : OpenClaim := { program := "ytfelbhpgifgkcaa", sum := "009d742ea7fe02378d6c7e135619db3e768f6e004b3e28b190d4924acd283fc8", func := "loop.example/importhouse/laws.FnFindIn", spec := "fnFindIn", unfollowed := true, recurses := true, plainKeys := false, apart := false, narrowed := true }
def FnFindInUptoSaid : Prop := fnFindInUptoRow.holds Try.pinned (OpenSpec.upto fnFindInSpec)

/-- 'laws.FnFindInSpace', WHERE WHAT IT READS IS OF BULK AT MOST 1048576: true; the input reads as it did. -/
def fnFindInSpaceUptoRow : OpenClaim := { program := "ytfelbhpgifgkcaa", sum := "009d742ea7fe02378d6c7e135619db3e768f6e004b3e28b190d4924acd283fc8", func := "loop.example/importhouse/laws.FnFindInSpace", spec := "fnFindInSpace", unfollowed := true, recurses := true, plainKeys := false, apart := false, narrowed := true }
def FnFindInSpaceUptoSaid : Prop := fnFindInSpaceUptoRow.holds Try.pinned (OpenSpec.upto fnFindInSpaceSpec)

/-- 'laws.FnFindSpec', WHERE WHAT IT READS IS OF BULK AT MOST 1048576: true; the input reads as it did. -/
def fnFindSpecUptoRow : OpenClaim := { program := "ytfelbhpgifgkcaa", sum := "009d742ea7fe02378d6c7e135619db3e768f6e004b3e28b190d4924acd283fc8", func := "loop.example/importhouse/laws.FnFindSpec", spec := "fnFindSpec", unfollowed := true, recurses := true, plainKeys := false, apart := false, narrowed := true }
def FnFindSpecUptoSaid : Prop := fnFindSpecUptoRow.holds Try.pinned (OpenSpec.upto fnFindSpecSpec)

/-- 'laws.FnExactDiskAdd', WHERE WHAT IT READS IS OF BULK AT MOST 1048576: true; the input reads as it did. -/
def fnExactDiskAddUptoRow : OpenClaim := { program := "ytfelbhpgifgkcaa", sum := "009d742ea7fe02378d6c7e135619db3e768f6e004b3e28b190d4924acd283fc8", func := "loop.example/importhouse/laws.FnExactDiskAdd", spec := "fnExactDiskAdd", plainKeys := false, apart := false, narrowed := true }
def FnExactDiskAddUptoSaid : Prop := fnExactDiskAddUptoRow.holds Try.pinned (OpenSpec.upto fnExactDiskAddSpec)

/-- 'laws.FnExactDiskRemove', WHERE WHAT IT READS IS OF BULK AT MOST 1048576: true; the input reads as it did. -/
def fnExactDiskRemoveUptoRow : OpenClaim := { program := "ytfelbhpgifgkcaa", sum := "009d742ea7fe02378d6c7e135619db3e768f6e004b3e28b190d4924acd283fc8", func := "loop.example/importhouse/laws.FnExactDiskRemove", spec := "fnExactDiskRemove", plainKeys := false, apart := false, narrowed := true }
def FnExactDiskRemoveUptoSaid : Prop := fnExactDiskRemoveUptoRow.holds Try.pinned (OpenSpec.upto fnExactDiskRemoveSpec)

end Rows
end Go.Proofs.Ytfelbhpgifgkcaa
