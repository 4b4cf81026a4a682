/-
  No cell of these rows narrows 'for every input' (looked for: loops, veiled, ifaces, maps, wideKeys, modest, calm, conditions, laid).
  DERIVED. THE GIVEN ROWS OF THIS SEAT. 6 by the template 'for every input the law returns true; each argument reads behind the call as it read before'; 0 by the template 'total and deterministic' (their statements: YtpopbcidnhepiaaTotals.lean).
  GIVEN WITH THE SEED: the statements are not yours to turn. If you find one false, say at which input.
  Laid BY PROGRAM, IN A SANDBOX (cutbox-rows.mjs): the forced cells as the released guide's own fill.sh prints them over the translation 92499670609fa7f3… (all of the seat's roots in one cut). By AI agents, Wed Nov 11 2026. No macro, syntax, notation, axiom, sorry.
-/
import Derived.Test.YtpopbcidnhepiaaChecked
import GoSem.Claim
import GoSem.ClaimJoined
import GoSem.ClaimMapViews
import Derived.JoinedTies
import Derived.KernelRfl
namespace Go.Proofs.Ytpopbcidnhepiaa
/- THE CELL 'sum', in the pinned program and in every row, IS THE sha256 OF THE DUMP (.gsa) THAT YtpopbcidnhepiaaProg.lean LOADS. Nothing in Lean hashes anything: it is a label: what it is worth is what the hold of that sum in a sandbox is worth. -/
noncomputable def Try.pinned : Pinned := { name := "ytpopbcidnhepiaa", sum := "92499670609fa7f34aa19a717f284573d5aec9db186729c9a56f469f38087934", checked := Try.checked }
namespace Rows
def none {H : Type} : Left H := { results := [], args := [] }

/-- 'laws.FnValidPart': WHATEVER THE INPUT: true; the input reads as it did. -/
def fnValidPartSpec : ChangeSpec := { name := "fnValidPart", fn := fun _ => fun
  | [d] => { results := [.lit (.bool true)], args := [d] }
  | _ => none }
def fnValidPartRow : OpenClaim := { program := "ytpopbcidnhepiaa", sum := "92499670609fa7f34aa19a717f284573d5aec9db186729c9a56f469f38087934", func := "loop.example/importhouse/laws.FnValidPart", spec := "fnValidPart", apart := false }
def FnValidPartSaid : Prop := fnValidPartRow.holds Try.pinned (OpenSpec.ofChange fnValidPartSpec)

/-- ITS FALSE NEIGHBOUR: 'it returns false'. Refute it at one input. -/
def fnValidPartWrong : ChangeSpec := { name := "fnValidPart", fn := fun _ => fun
  | [d] => { results := [.lit (.bool false)], args := [d] }
  | _ => none }
def FnValidPartWrongFalsely : Prop := fnValidPartRow.holds Try.pinned (OpenSpec.ofChange fnValidPartWrong)

/-- 'laws.FnValidName': WHATEVER THE INPUT: true; the input reads as it did. -/
def fnValidNameSpec : ChangeSpec := { name := "fnValidName", fn := fun _ => fun
  | [d] => { results := [.lit (.bool true)], args := [d] }
  | _ => none }
def fnValidNameRow : OpenClaim := { program := "ytpopbcidnhepiaa", sum := "92499670609fa7f34aa19a717f284573d5aec9db186729c9a56f469f38087934", func := "loop.example/importhouse/laws.FnValidName", spec := "fnValidName", apart := false }
def FnValidNameSaid : Prop := fnValidNameRow.holds Try.pinned (OpenSpec.ofChange fnValidNameSpec)

/-- ITS FALSE NEIGHBOUR: 'it returns false'. Refute it at one input. -/
def fnValidNameWrong : ChangeSpec := { name := "fnValidName", fn := fun _ => fun
  | [d] => { results := [.lit (.bool false)], args := [d] }
  | _ => none }
def FnValidNameWrongFalsely : Prop := fnValidNameRow.holds Try.pinned (OpenSpec.ofChange fnValidNameWrong)

/-- 'laws.FnPartsOf': WHATEVER THE INPUT: true; the input reads as it did. -/
def fnPartsOfSpec : ChangeSpec := { name := "fnPartsOf", fn := fun _ => fun
  | [d] => { results := [.lit (.bool true)], args := [d] }
  | _ => none }
def fnPartsOfRow : OpenClaim := { program := "ytpopbcidnhepiaa", sum := "92499670609fa7f34aa19a717f284573d5aec9db186729c9a56f469f38087934", func := "loop.example/importhouse/laws.FnPartsOf", spec := "fnPartsOf", apart := false }
def FnPartsOfSaid : Prop := fnPartsOfRow.holds Try.pinned (OpenSpec.ofChange fnPartsOfSpec)

/-- ITS FALSE NEIGHBOUR: 'it returns false'. Refute it at one input. -/
def fnPartsOfWrong : ChangeSpec := { name := "fnPartsOf", fn := fun _ => fun
  | [d] => { results := [.lit (.bool false)], args := [d] }
  | _ => none }
def FnPartsOfWrongFalsely : Prop := fnPartsOfRow.holds Try.pinned (OpenSpec.ofChange fnPartsOfWrong)

/-- 'laws.FnJoinParts': WHATEVER THE INPUT: true; the input reads as it did. -/
def fnJoinPartsSpec : ChangeSpec := { name := "fnJoinParts", fn := fun _ => fun
  | [d] => { results := [.lit (.bool true)], args := [d] }
  | _ => none }
def fnJoinPartsRow : OpenClaim := { program := "ytpopbcidnhepiaa", sum := "92499670609fa7f34aa19a717f284573d5aec9db186729c9a56f469f38087934", func := "loop.example/importhouse/laws.FnJoinParts", spec := "fnJoinParts", apart := false }
def FnJoinPartsSaid : Prop := fnJoinPartsRow.holds Try.pinned (OpenSpec.ofChange fnJoinPartsSpec)

/-- ITS FALSE NEIGHBOUR: 'it returns false'. Refute it at one input. -/
def fnJoinPartsWrong : ChangeSpec := { name := "fnJoinParts", fn := fun _ => fun
  | [d] => { results := [.lit (.bool false)], args := [d] }
  | _ => none }
def FnJoinPartsWrongFalsely : Prop := fnJoinPartsRow.holds Try.pinned (OpenSpec.ofChange fnJoinPartsWrong)

/-- 'laws.FnParentOf': WHATEVER THE INPUT: true; the input reads as it did. -/
def fnParentOfSpec : ChangeSpec := { name := "fnParentOf", fn := fun _ => fun
  | [d] => { results := [.lit (.bool true)], args := [d] }
  | _ => none }
def fnParentOfRow : OpenClaim := { program := "ytpopbcidnhepiaa", sum := "92499670609fa7f34aa19a717f284573d5aec9db186729c9a56f469f38087934", func := "loop.example/importhouse/laws.FnParentOf", spec := "fnParentOf", apart := false }
def FnParentOfSaid : Prop := fnParentOfRow.holds Try.pinned (OpenSpec.ofChange fnParentOfSpec)

/-- ITS FALSE NEIGHBOUR: 'it returns false'. Refute it at one input. -/
def fnParentOfWrong : ChangeSpec := { name := "fnParentOf", fn := fun _ => fun
  | [d] => { results := [.lit (.bool false)], args := [d] }
  | _ => none }
def FnParentOfWrongFalsely : Prop := fnParentOfRow.holds Try.pinned (OpenSpec.ofChange fnParentOfWrong)

/-- 'laws.FnLastOf': WHATEVER THE INPUT: true; the input reads as it did. -/
def fnLastOfSpec : ChangeSpec := { name := "fnLastOf", fn := fun _ => fun
  | [d] => { results := [.lit (.bool true)], args := [d] }
  | _ => none }
def fnLastOfRow : OpenClaim := { program := "ytpopbcidnhepiaa", sum := "92499670609fa7f34aa19a717f284573d5aec9db186729c9a56f469f38087934", func := "loop.example/importhouse/laws.FnLastOf", spec := "fnLastOf", apart := false }
def FnLastOfSaid : Prop := fnLastOfRow.holds Try.pinned (OpenSpec.ofChange fnLastOfSpec)

/-- ITS FALSE NEIGHBOUR: 'it returns false'. Refute it at one input. -/
def fnLastOfWrong : ChangeSpec := { name := "fnLastOf", fn := fun _ => fun
  | [d] => { results := [.lit (.bool false)], args := [d] }
  | _ => none }
def FnLastOfWrongFalsely : Prop := fnLastOfRow.holds Try.pinned (OpenSpec.ofChange fnLastOfWrong)

/- THE SECOND FORM. 'bulk': how many values and letters a reading holds, each counted each time it is reached (what is shared counts as often as it is met; a slice's spare places count too). A statement '..UptoSaid' is the law's where the arguments, and the package variables that the reading takes, are together of bulk at most 1048576: NARROWER than '..Said'. Prove '..Said' where nothing that the law and all that it calls make is longer than what came in: it says more and counts as full. Else prove '..UptoSaid'. A law counts once. -/
mutual
def uptoBulk {H : Type} : DataW H → Nat
  | .lit (.string bytes) => bytes.length + 1
  | .lit _ => 1
  | .nil => 1
  | .ptr d => uptoBulk d + 1
  | .slice elems spare => uptoBulkAll elems + uptoBulkAll spare + 1
  | .agg parts => uptoBulkAll parts + 1
  | .iface _ d => uptoBulk d + 1
  | .map entries => uptoBulkEntries entries + 1
  | .held _ => 1
def uptoBulkAll {H : Type} : List (DataW H) → Nat
  | [] => 0
  | d :: r => uptoBulk d + uptoBulkAll r
def uptoBulkEntries {H : Type} : List (Lit × DataW H) → Nat
  | [] => 0
  | x :: r => uptoBulkEntry x + uptoBulkEntries r
def uptoBulkEntry {H : Type} : Lit × DataW H → Nat
  | (.string bytes, d) => bytes.length + uptoBulk d + 1
  | (_, d) => uptoBulk d + 1
 end
def uptoSmall : (H : Type) → List (DataW H) → Bool := fun _ ds => decide (uptoBulkAll ds ≤ 1048576)
def OpenSpec.upto (s : _root_.Go.ChangeSpec) : _root_.Go.OpenSpec := { _root_.Go.OpenSpec.ofChange s with cond := some uptoSmall }

/-- 'laws.FnValidPart', WHERE WHAT IT READS IS OF BULK AT MOST 1048576: true; the input reads as it did. -/
def fnValidPartUptoRow : OpenClaim := { program := "ytpopbcidnhepiaa", sum := "92499670609fa7f34aa19a717f284573d5aec9db186729c9a56f469f38087934", func := "loop.example/importhouse/laws.FnValidPart", spec := "fnValidPart", apart := false, narrowed := true }
def FnValidPartUptoSaid : Prop := fnValidPartUptoRow.holds Try.pinned (OpenSpec.upto fnValidPartSpec)

/-- 'laws.FnValidName', WHERE WHAT IT READS IS OF BULK AT MOST 1048576: true; the input reads as it did. -/
def fnValidNameUptoRow : OpenClaim := { program := "ytpopbcidnhepiaa", sum := "92499670609fa7f34aa19a717f284573d5aec9db186729c9a56f469f38087934", func := "loop.example/importhouse/laws.FnValidName", spec := "fnValidName", apart := false, narrowed := true }
def FnValidNameUptoSaid : Prop := fnValidNameUptoRow.holds Try.pinned (OpenSpec.upto fnValidNameSpec)

/-- 'laws.FnPartsOf', WHERE WHAT IT READS IS OF BULK AT MOST 1048576: true; the input reads as it did. -/
def fnPartsOfUptoRow : OpenClaim := { program := "ytpopbcidnhepiaa", sum := "92499670609fa7f34aa19a717f284573d5aec9db186729c9a56f469f38087934", func := "loop.example/importhouse/laws.FnPartsOf", spec := "fnPartsOf", apart := false, narrowed := true }
def FnPartsOfUptoSaid : Prop := fnPartsOfUptoRow.holds Try.pinned (OpenSpec.upto fnPartsOfSpec)

/-- 'laws.FnJoinParts', WHERE WHAT IT READS IS OF BULK AT MOST 1048576: true; the input reads as it did. -/
def fnJoinPartsUptoRow : OpenClaim := { program := "ytpopbcidnhepiaa", sum := "92499670609fa7f34aa19a717f284573d5aec9db186729c9a56f469f38087934", func := "loop.example/importhouse/laws.FnJoinParts", spec := "fnJoinParts", apart := false, narrowed := true }
def FnJoinPartsUptoSaid : Prop := fnJoinPartsUptoRow.holds Try.pinned (OpenSpec.upto fnJoinPartsSpec)

/-- 'laws.FnParentOf', WHERE WHAT IT READS IS OF BULK AT MOST 1048576: true; the input reads as it did. -/
def fnParentOfUptoRow : OpenClaim := { program := "ytpopbcidnhepiaa", sum := "92499670609fa7f34aa19a717f284573d5aec9db186729c9a56f469f38087934", func := "loop.example/importhouse/laws.FnParentOf", spec := "fnParentOf", apart := false, narrowed := true }
def FnParentOfUptoSaid : Prop := fnParentOfUptoRow.holds Try.pinned (OpenSpec.upto fnParentOfSpec)

/-- 'laws.FnLastOf', WHERE WHAT IT READS IS OF BULK AT MOST 1048576: true; the input reads as it did. -/
def fnLastOfUptoRow : OpenClaim := { program := "ytpopbcidnhepiaa", sum := "92499670609fa7f34aa19a717f284573d5aec9db186729c9a56f469f38087934", func := "loop.example/importhouse/laws.FnLastOf", spec := "fnLastOf", apart := false, narrowed := true }
def FnLastOfUptoSaid : Prop := fnLastOfUptoRow.holds Try.pinned (OpenSpec.upto fnLastOfSpec)

end Rows
end Go.Proofs.Ytpopbcidnhepiaa
