/-
  No cell of these rows narrows 'for every input' (looked for: loops, veiled, ifaces, maps, wideKeys, modest, calm, conditions, laid).
  DERIVED. THE GIVEN ROWS OF THIS SEAT. 12 by the template 'for every input the law returns true; each argument reads behind the call as it read before'; 0 by the template 'total and deterministic' (their statements: YtfchakfkgmhagaaGreatTotals.lean).
  GIVEN WITH THE SEED: the statements are not yours to turn. If you find one false, say at which input.
  Laid BY PROGRAM, IN A SANDBOX (cutbox-rows.mjs): the forced cells as the released guide's own fill.sh prints them over the translation 5de9a36c14eae303… (all of the seat's roots in one cut). By AI agents, Wed Nov 11 2026. No macro, syntax, notation, axiom, sorry.
-/
import Derived.Test.YtfchakfkgmhagaaGreatChecked
import GoSem.Claim
import GoSem.ClaimJoined
import GoSem.ClaimMapViews
import Derived.JoinedTies
import Derived.KernelRfl
namespace Go.Proofs.YtfchakfkgmhagaaGreat
/- THE CELL 'sum', in the pinned program and in every row, IS THE sha256 OF THE DUMP (.gsa) THAT YtfchakfkgmhagaaGreatProg.lean LOADS. Nothing in Lean hashes anything: it is a label: what it is worth is what the hold of that sum in a sandbox is worth. -/
noncomputable def Tryz.pinned : Pinned := { name := "ytfchakfkgmhagaagreat", sum := "5de9a36c14eae303fe7662476cbc272235d6050d2b2effcb86ce0b99bf0b7663", checked := Tryz.checked }
namespace Rows
def none {H : Type} : Left H := { results := [], args := [] }

/-- 'laws.FnExactNeedsOf': WHATEVER THE INPUT: true; the input reads as it did. -/
def fnExactNeedsOfSpec : ChangeSpec := { name := "fnExactNeedsOf", fn := fun _ => fun
  | [d1, d2, d3] => { results := [.lit (.bool true)], args := [d1, d2, d3] }
  | _ => none }
def fnExactNeedsOfRow : OpenClaim := { program := "ytfchakfkgmhagaagreat", sum := "5de9a36c14eae303fe7662476cbc272235d6050d2b2effcb86ce0b99bf0b7663", func := "loop.example/importhouse/laws.FnExactNeedsOf", spec := "fnExactNeedsOf", unfollowed := true, recurses := true, plainKeys := false, apart := false }
def FnExactNeedsOfSaid : Prop := fnExactNeedsOfRow.holds Tryz.pinned (OpenSpec.ofChange fnExactNeedsOfSpec)

/-- ITS FALSE NEIGHBOUR: 'it returns false'. Refute it at one input. -/
def fnExactNeedsOfWrong : ChangeSpec := { name := "fnExactNeedsOf", fn := fun _ => fun
  | [d1, d2, d3] => { results := [.lit (.bool false)], args := [d1, d2, d3] }
  | _ => none }
def FnExactNeedsOfWrongFalsely : Prop := fnExactNeedsOfRow.holds Tryz.pinned (OpenSpec.ofChange fnExactNeedsOfWrong)

/-- 'laws.FnExactEdgesOf': WHATEVER THE INPUT: true; the input reads as it did. -/
def fnExactEdgesOfSpec : ChangeSpec := { name := "fnExactEdgesOf", fn := fun _ => fun
  | [d1, d2, d3] => { results := [.lit (.bool true)], args := [d1, d2, d3] }
  | _ => none }
def fnExactEdgesOfRow : OpenClaim := { program := "ytfchakfkgmhagaagreat", sum := "5de9a36c14eae303fe7662476cbc272235d6050d2b2effcb86ce0b99bf0b7663", func := "loop.example/importhouse/laws.FnExactEdgesOf", spec := "fnExactEdgesOf", unfollowed := true, recurses := true, plainKeys := false, apart := false }
def FnExactEdgesOfSaid : Prop := fnExactEdgesOfRow.holds Tryz.pinned (OpenSpec.ofChange fnExactEdgesOfSpec)

/-- ITS FALSE NEIGHBOUR: 'it returns false'. Refute it at one input. -/
def fnExactEdgesOfWrong : ChangeSpec := { name := "fnExactEdgesOf", fn := fun _ => fun
  | [d1, d2, d3] => { results := [.lit (.bool false)], args := [d1, d2, d3] }
  | _ => none }
def FnExactEdgesOfWrongFalsely : Prop := fnExactEdgesOfRow.holds Tryz.pinned (OpenSpec.ofChange fnExactEdgesOfWrong)

/-- 'laws.FnExactReachOf': WHATEVER THE INPUT: true; the input reads as it did. -/
def fnExactReachOfSpec : ChangeSpec := { name := "fnExactReachOf", fn := fun _ => fun
  | [d1, d2, d3] => { results := [.lit (.bool true)], args := [d1, d2, d3] }
  | _ => none }
def fnExactReachOfRow : OpenClaim := { program := "ytfchakfkgmhagaagreat", sum := "5de9a36c14eae303fe7662476cbc272235d6050d2b2effcb86ce0b99bf0b7663", func := "loop.example/importhouse/laws.FnExactReachOf", spec := "fnExactReachOf", unfollowed := true, recurses := true, plainKeys := false, apart := false }
def FnExactReachOfSaid : Prop := fnExactReachOfRow.holds Tryz.pinned (OpenSpec.ofChange fnExactReachOfSpec)

/-- ITS FALSE NEIGHBOUR: 'it returns false'. Refute it at one input. -/
def fnExactReachOfWrong : ChangeSpec := { name := "fnExactReachOf", fn := fun _ => fun
  | [d1, d2, d3] => { results := [.lit (.bool false)], args := [d1, d2, d3] }
  | _ => none }
def FnExactReachOfWrongFalsely : Prop := fnExactReachOfRow.holds Tryz.pinned (OpenSpec.ofChange fnExactReachOfWrong)

/-- 'laws.FnExactMissingOf': WHATEVER THE INPUT: true; the input reads as it did. -/
def fnExactMissingOfSpec : ChangeSpec := { name := "fnExactMissingOf", fn := fun _ => fun
  | [d1, d2, d3] => { results := [.lit (.bool true)], args := [d1, d2, d3] }
  | _ => none }
def fnExactMissingOfRow : OpenClaim := { program := "ytfchakfkgmhagaagreat", sum := "5de9a36c14eae303fe7662476cbc272235d6050d2b2effcb86ce0b99bf0b7663", func := "loop.example/importhouse/laws.FnExactMissingOf", spec := "fnExactMissingOf", unfollowed := true, recurses := true, plainKeys := false, apart := false }
def FnExactMissingOfSaid : Prop := fnExactMissingOfRow.holds Tryz.pinned (OpenSpec.ofChange fnExactMissingOfSpec)

/-- ITS FALSE NEIGHBOUR: 'it returns false'. Refute it at one input. -/
def fnExactMissingOfWrong : ChangeSpec := { name := "fnExactMissingOf", fn := fun _ => fun
  | [d1, d2, d3] => { results := [.lit (.bool false)], args := [d1, d2, d3] }
  | _ => none }
def FnExactMissingOfWrongFalsely : Prop := fnExactMissingOfRow.holds Tryz.pinned (OpenSpec.ofChange fnExactMissingOfWrong)

/-- 'laws.FnExactRingsOf': WHATEVER THE INPUT: true; the input reads as it did. -/
def fnExactRingsOfSpec : ChangeSpec := { name := "fnExactRingsOf", fn := fun _ => fun
  | [d1, d2, d3] => { results := [.lit (.bool true)], args := [d1, d2, d3] }
  | _ => none }
def fnExactRingsOfRow : OpenClaim := { program := "ytfchakfkgmhagaagreat", sum := "5de9a36c14eae303fe7662476cbc272235d6050d2b2effcb86ce0b99bf0b7663", func := "loop.example/importhouse/laws.FnExactRingsOf", spec := "fnExactRingsOf", unfollowed := true, recurses := true, plainKeys := false, apart := false }
def FnExactRingsOfSaid : Prop := fnExactRingsOfRow.holds Tryz.pinned (OpenSpec.ofChange fnExactRingsOfSpec)

/-- ITS FALSE NEIGHBOUR: 'it returns false'. Refute it at one input. -/
def fnExactRingsOfWrong : ChangeSpec := { name := "fnExactRingsOf", fn := fun _ => fun
  | [d1, d2, d3] => { results := [.lit (.bool false)], args := [d1, d2, d3] }
  | _ => none }
def FnExactRingsOfWrongFalsely : Prop := fnExactRingsOfRow.holds Tryz.pinned (OpenSpec.ofChange fnExactRingsOfWrong)

/-- 'laws.FnExactPlainOrder': WHATEVER THE INPUT: true; the input reads as it did. -/
def fnExactPlainOrderSpec : ChangeSpec := { name := "fnExactPlainOrder", fn := fun _ => fun
  | [d1, d2, d3] => { results := [.lit (.bool true)], args := [d1, d2, d3] }
  | _ => none }
def fnExactPlainOrderRow : OpenClaim := { program := "ytfchakfkgmhagaagreat", sum := "5de9a36c14eae303fe7662476cbc272235d6050d2b2effcb86ce0b99bf0b7663", func := "loop.example/importhouse/laws.FnExactPlainOrder", spec := "fnExactPlainOrder", unfollowed := true, recurses := true, plainKeys := false, apart := false }
def FnExactPlainOrderSaid : Prop := fnExactPlainOrderRow.holds Tryz.pinned (OpenSpec.ofChange fnExactPlainOrderSpec)

/-- ITS FALSE NEIGHBOUR: 'it returns false'. Refute it at one input. -/
def fnExactPlainOrderWrong : ChangeSpec := { name := "fnExactPlainOrder", fn := fun _ => fun
  | [d1, d2, d3] => { results := [.lit (.bool false)], args := [d1, d2, d3] }
  | _ => none }
def FnExactPlainOrderWrongFalsely : Prop := fnExactPlainOrderRow.holds Tryz.pinned (OpenSpec.ofChange fnExactPlainOrderWrong)

/-- 'laws.FnExactIsSimple': WHATEVER THE INPUT: true; the input reads as it did. -/
def fnExactIsSimpleSpec : ChangeSpec := { name := "fnExactIsSimple", fn := fun _ => fun
  | [d1, d2, d3] => { results := [.lit (.bool true)], args := [d1, d2, d3] }
  | _ => none }
def fnExactIsSimpleRow : OpenClaim := { program := "ytfchakfkgmhagaagreat", sum := "5de9a36c14eae303fe7662476cbc272235d6050d2b2effcb86ce0b99bf0b7663", func := "loop.example/importhouse/laws.FnExactIsSimple", spec := "fnExactIsSimple", unfollowed := true, recurses := true, plainKeys := false, apart := false }
def FnExactIsSimpleSaid : Prop := fnExactIsSimpleRow.holds Tryz.pinned (OpenSpec.ofChange fnExactIsSimpleSpec)

/-- ITS FALSE NEIGHBOUR: 'it returns false'. Refute it at one input. -/
def fnExactIsSimpleWrong : ChangeSpec := { name := "fnExactIsSimple", fn := fun _ => fun
  | [d1, d2, d3] => { results := [.lit (.bool false)], args := [d1, d2, d3] }
  | _ => none }
def FnExactIsSimpleWrongFalsely : Prop := fnExactIsSimpleRow.holds Tryz.pinned (OpenSpec.ofChange fnExactIsSimpleWrong)

/-- 'laws.FnExactUsersOf': WHATEVER THE INPUT: true; the input reads as it did. -/
def fnExactUsersOfSpec : ChangeSpec := { name := "fnExactUsersOf", fn := fun _ => fun
  | [d1, d2, d3] => { results := [.lit (.bool true)], args := [d1, d2, d3] }
  | _ => none }
def fnExactUsersOfRow : OpenClaim := { program := "ytfchakfkgmhagaagreat", sum := "5de9a36c14eae303fe7662476cbc272235d6050d2b2effcb86ce0b99bf0b7663", func := "loop.example/importhouse/laws.FnExactUsersOf", spec := "fnExactUsersOf", unfollowed := true, recurses := true, plainKeys := false, apart := false }
def FnExactUsersOfSaid : Prop := fnExactUsersOfRow.holds Tryz.pinned (OpenSpec.ofChange fnExactUsersOfSpec)

/-- ITS FALSE NEIGHBOUR: 'it returns false'. Refute it at one input. -/
def fnExactUsersOfWrong : ChangeSpec := { name := "fnExactUsersOf", fn := fun _ => fun
  | [d1, d2, d3] => { results := [.lit (.bool false)], args := [d1, d2, d3] }
  | _ => none }
def FnExactUsersOfWrongFalsely : Prop := fnExactUsersOfRow.holds Tryz.pinned (OpenSpec.ofChange fnExactUsersOfWrong)

/-- 'laws.FnExactLayersOf': WHATEVER THE INPUT: true; the input reads as it did. -/
def fnExactLayersOfSpec : ChangeSpec := { name := "fnExactLayersOf", fn := fun _ => fun
  | [d1, d2, d3] => { results := [.lit (.bool true)], args := [d1, d2, d3] }
  | _ => none }
def fnExactLayersOfRow : OpenClaim := { program := "ytfchakfkgmhagaagreat", sum := "5de9a36c14eae303fe7662476cbc272235d6050d2b2effcb86ce0b99bf0b7663", func := "loop.example/importhouse/laws.FnExactLayersOf", spec := "fnExactLayersOf", unfollowed := true, recurses := true, plainKeys := false, apart := false }
def FnExactLayersOfSaid : Prop := fnExactLayersOfRow.holds Tryz.pinned (OpenSpec.ofChange fnExactLayersOfSpec)

/-- ITS FALSE NEIGHBOUR: 'it returns false'. Refute it at one input. -/
def fnExactLayersOfWrong : ChangeSpec := { name := "fnExactLayersOf", fn := fun _ => fun
  | [d1, d2, d3] => { results := [.lit (.bool false)], args := [d1, d2, d3] }
  | _ => none }
def FnExactLayersOfWrongFalsely : Prop := fnExactLayersOfRow.holds Tryz.pinned (OpenSpec.ofChange fnExactLayersOfWrong)

/-- 'laws.FnNeedsOf': WHATEVER THE INPUT: true; the input reads as it did. -/
def fnNeedsOfSpec : ChangeSpec := { name := "fnNeedsOf", fn := fun _ => fun
  | [d] => { results := [.lit (.bool true)], args := [d] }
  | _ => none }
def fnNeedsOfRow : OpenClaim := { program := "ytfchakfkgmhagaagreat", sum := "5de9a36c14eae303fe7662476cbc272235d6050d2b2effcb86ce0b99bf0b7663", func := "loop.example/importhouse/laws.FnNeedsOf", spec := "fnNeedsOf", unfollowed := true, recurses := true, plainKeys := false, apart := false }
def FnNeedsOfSaid : Prop := fnNeedsOfRow.holds Tryz.pinned (OpenSpec.ofChange fnNeedsOfSpec)

/-- ITS FALSE NEIGHBOUR: 'it returns false'. Refute it at one input. -/
def fnNeedsOfWrong : ChangeSpec := { name := "fnNeedsOf", fn := fun _ => fun
  | [d] => { results := [.lit (.bool false)], args := [d] }
  | _ => none }
def FnNeedsOfWrongFalsely : Prop := fnNeedsOfRow.holds Tryz.pinned (OpenSpec.ofChange fnNeedsOfWrong)

/-- 'laws.FnEdgesOf': WHATEVER THE INPUT: true; the input reads as it did. -/
def fnEdgesOfSpec : ChangeSpec := { name := "fnEdgesOf", fn := fun _ => fun
  | [d] => { results := [.lit (.bool true)], args := [d] }
  | _ => none }
def fnEdgesOfRow : OpenClaim := { program := "ytfchakfkgmhagaagreat", sum := "5de9a36c14eae303fe7662476cbc272235d6050d2b2effcb86ce0b99bf0b7663", func := "loop.example/importhouse/laws.FnEdgesOf", spec := "fnEdgesOf", unfollowed := true, recurses := true, plainKeys := false, apart := false }
def FnEdgesOfSaid : Prop := fnEdgesOfRow.holds Tryz.pinned (OpenSpec.ofChange fnEdgesOfSpec)

/-- ITS FALSE NEIGHBOUR: 'it returns false'. Refute it at one input. -/
def fnEdgesOfWrong : ChangeSpec := { name := "fnEdgesOf", fn := fun _ => fun
  | [d] => { results := [.lit (.bool false)], args := [d] }
  | _ => none }
def FnEdgesOfWrongFalsely : Prop := fnEdgesOfRow.holds Tryz.pinned (OpenSpec.ofChange fnEdgesOfWrong)

/-- 'laws.FnReachOf': WHATEVER THE INPUT: true; the input reads as it did. -/
def fnReachOfSpec : ChangeSpec := { name := "fnReachOf", fn := fun _ => fun
  | [d] => { results := [.lit (.bool true)], args := [d] }
  | _ => none }
def fnReachOfRow : OpenClaim := { program := "ytfchakfkgmhagaagreat", sum := "5de9a36c14eae303fe7662476cbc272235d6050d2b2effcb86ce0b99bf0b7663", func := "loop.example/importhouse/laws.FnReachOf", spec := "fnReachOf", unfollowed := true, recurses := true, plainKeys := false, apart := false }
def FnReachOfSaid : Prop := fnReachOfRow.holds Tryz.pinned (OpenSpec.ofChange fnReachOfSpec)

/-- ITS FALSE NEIGHBOUR: 'it returns false'. Refute it at one input. -/
def fnReachOfWrong : ChangeSpec := { name := "fnReachOf", fn := fun _ => fun
  | [d] => { results := [.lit (.bool false)], args := [d] }
  | _ => none }
def FnReachOfWrongFalsely : Prop := fnReachOfRow.holds Tryz.pinned (OpenSpec.ofChange fnReachOfWrong)

/- THE SECOND FORM. 'bulk': how many values and letters a reading holds, each counted each time it is reached (what is shared counts as often as it is met; a slice's spare places count too). A statement '..UptoSaid' is the law's where the arguments, and the package variables that the reading takes, are together of bulk at most 1048576: NARROWER than '..Said'. Prove '..Said' where nothing that the law and all that it calls make is longer than what came in: it says more and counts as full. Else prove '..UptoSaid'. A law counts once. -/
mutual
def uptoBulk {H : Type} : DataW H → Nat
  | .lit (.string bytes) => bytes.length + 1
  | .lit _ => 1
  | .nil => 1
  | .ptr d => uptoBulk d + 1
  | .slice elems spare => uptoBulkAll elems + uptoBulkAll spare + 1
  | .agg parts => uptoBulkAll parts + 1
  | .iface _ d => uptoBulk d + 1
  | .map entries => uptoBulkEntries entries + 1
  | .held _ => 1
def uptoBulkAll {H : Type} : List (DataW H) → Nat
  | [] => 0
  | d :: r => uptoBulk d + uptoBulkAll r
def uptoBulkEntries {H : Type} : List (Lit × DataW H) → Nat
  | [] => 0
  | x :: r => uptoBulkEntry x + uptoBulkEntries r
def uptoBulkEntry {H : Type} : Lit × DataW H → Nat
  | (.string bytes, d) => bytes.length + uptoBulk d + 1
  | (_, d) => uptoBulk d + 1
 end
def uptoSmall : (H : Type) → List (DataW H) → Bool := fun _ ds => decide (uptoBulkAll ds ≤ 1048576)
def OpenSpec.upto (s : _root_.Go.ChangeSpec) : _root_.Go.OpenSpec := { _root_.Go.OpenSpec.ofChange s with cond := some uptoSmall }

/-- 'laws.FnExactNeedsOf', WHERE WHAT IT READS IS OF BULK AT MOST 1048576: true; the input reads as it did. -/
def fnExactNeedsOfUptoRow : OpenClaim := { program := "ytfchakfkgmhagaagreat", sum := "5de9a36c14eae303fe7662476cbc272235d6050d2b2effcb86ce0b99bf0b7663", func := "loop.example/importhouse/laws.FnExactNeedsOf", spec := "fnExactNeedsOf", unfollowed := true, recurses := true, plainKeys := false, apart := false, narrowed := true }
def FnExactNeedsOfUptoSaid : Prop := fnExactNeedsOfUptoRow.holds Tryz.pinned (OpenSpec.upto fnExactNeedsOfSpec)

/-- 'laws.FnExactEdgesOf', WHERE WHAT IT READS IS OF BULK AT MOST 1048576: true; the input reads as it did. -/
def fnExactEdgesOfUptoRow : OpenClaim := { program := "ytfchakfkgmhagaagreat", sum := "5de9a36c14eae303fe7662476cbc272235d6050d2b2effcb86ce0b99bf0b7663", func := "loop.example/importhouse/laws.FnExactEdgesOf", spec := "fnExactEdgesOf", unfollowed := true, recurses := true, plainKeys := false, apart := false, narrowed := true }
def FnExactEdgesOfUptoSaid : Prop := fnExactEdgesOfUptoRow.holds Tryz.pinned (OpenSpec.upto fnExactEdgesOfSpec)

/-- 'laws.FnExactReachOf', WHERE WHAT IT READS IS OF BULK AT MOST 1048576: true; the input reads as it did. -/
def fnExactReachOfUptoRow : OpenClaim := { program := "ytfchakfkgmhagaagreat", sum := "5de9a36c14eae303fe7662476cbc272235d6050d2b2effcb86ce0b99bf0b7663", func := "loop.example/importhouse/laws.FnExactReachOf", spec := "fnExactReachOf", unfollowed := true, recurses := true, plainKeys := false, apart := false, narrowed := true }
def FnExactReachOfUptoSaid : Prop := fnExactReachOfUptoRow.holds Tryz.pinned (OpenSpec.upto fnExactReachOfSpec)

/-- 'laws.FnExactMissingOf', WHERE WHAT IT READS IS OF BULK AT MOST 1048576: true; the input reads as it did. -/
def fnExactMissingOfUptoRow : OpenClaim := { program := "ytfchakfkgmhagaagreat", sum := "5de9a36c14eae303fe7662476cbc272235d6050d2b2effcb86ce0b99bf0b7663", func := "loop.example/importhouse/laws.FnExactMissingOf", spec := "fnExactMissingOf", unfollowed := true, recurses := true, plainKeys := false, apart := false, narrowed := true }
def FnExactMissingOfUptoSaid : Prop := fnExactMissingOfUptoRow.holds Tryz.pinned (OpenSpec.upto fnExactMissingOfSpec)

/-- 'laws.FnExactRingsOf', WHERE WHAT IT READS IS OF BULK AT MOST 1048576: true; the input reads as it did. -/
def fnExactRingsOfUptoRow : OpenClaim := { program := "ytfchakfkgmhagaagreat", sum := "5de9a36c14eae303fe7662476cbc272235d6050d2b2effcb86ce0b99bf0b7663", func := "loop.example/importhouse/laws.FnExactRingsOf", spec := "fnExactRingsOf", unfollowed := true, recurses := true, plainKeys := false, apart := false, narrowed := true }
def FnExactRingsOfUptoSaid : Prop := fnExactRingsOfUptoRow.holds Tryz.pinned (OpenSpec.upto fnExactRingsOfSpec)

/-- 'laws.FnExactPlainOrder', WHERE WHAT IT READS IS OF BULK AT MOST 1048576: true; the input reads as it did. -/
def fnExactPlainOrderUptoRow : OpenClaim := { program := "ytfchakfkgmhagaagreat", sum := "5de9a36c14eae303fe7662476cbc272235d6050d2b2effcb86ce0b99bf0b7663", func := "loop.example/importhouse/laws.FnExactPlainOrder", spec := "fnExactPlainOrder", unfollowed := true, recurses := true, plainKeys := false, apart := false, narrowed := true }
def FnExactPlainOrderUptoSaid : Prop := fnExactPlainOrderUptoRow.holds Tryz.pinned (OpenSpec.upto fnExactPlainOrderSpec)

/-- 'laws.FnExactIsSimple', WHERE WHAT IT READS IS OF BULK AT MOST 1048576: true; the input reads as it did. -/
def fnExactIsSimpleUptoRow : OpenClaim := { program := "ytfchakfkgmhagaagreat", sum := "5de9a36c14eae303fe7662476cbc272235d6050d2b2effcb86ce0b99bf0b7663", func := "loop.example/importhouse/laws.FnExactIsSimple", spec := "fnExactIsSimple", unfollowed := true, recurses := true, plainKeys := false, apart := false, narrowed := true }
def FnExactIsSimpleUptoSaid : Prop := fnExactIsSimpleUptoRow.holds Tryz.pinned (OpenSpec.upto fnExactIsSimpleSpec)

/-- 'laws.FnExactUsersOf', WHERE WHAT IT READS IS OF BULK AT MOST 1048576: true; the input reads as it did. -/
def fnExactUsersOfUptoRow : OpenClaim := { program := "ytfchakfkgmhagaagreat", sum := "5de9a36c14eae303fe7662476cbc272235d6050d2b2effcb86ce0b99bf0b7663", func := "loop.example/importhouse/laws.FnExactUsersOf", spec := "fnExactUsersOf", unfollowed := true, recurses := true, plainKeys := false, apart := false, narrowed := true }
def FnExactUsersOfUptoSaid : Prop := fnExactUsersOfUptoRow.holds Tryz.pinned (OpenSpec.upto fnExactUsersOfSpec)

/-- 'laws.FnExactLayersOf', WHERE WHAT IT READS IS OF BULK AT MOST 1048576: true; the input reads as it did. -/
def fnExactLayersOfUptoRow : OpenClaim := { program := "ytfchakfkgmhagaagreat", sum := "5de9a36c14eae303fe7662476cbc272235d6050d2b2effcb86ce0b99bf0b7663", func := "loop.example/importhouse/laws.FnExactLayersOf", spec := "fnExactLayersOf", unfollowed := true, recurses := true, plainKeys := false, apart := false, narrowed := true }
def FnExactLayersOfUptoSaid : Prop := fnExactLayersOfUptoRow.holds Tryz.pinned (OpenSpec.upto fnExactLayersOfSpec)

/-- 'laws.FnNeedsOf', WHERE WHAT IT READS IS OF BULK AT MOST 1048576: true; the input reads as it did. -/
def fnNeedsOfUptoRow : OpenClaim := { program := "ytfchakfkgmhagaagreat", sum := "5de9a36c14eae303fe7662476cbc272235d6050d2b2effcb86ce0b99bf0b7663", func := "loop.example/importhouse/laws.FnNeedsOf", spec := "fnNeedsOf", unfollowed := true, recurses := true, plainKeys := false, apart := false, narrowed := true }
def FnNeedsOfUptoSaid : Prop := fnNeedsOfUptoRow.holds Tryz.pinned (OpenSpec.upto fnNeedsOfSpec)

/-- 'laws.FnEdgesOf', WHERE WHAT IT READS IS OF BULK AT MOST 1048576: true; the input reads as it did. -/
def fnEdgesOfUptoRow : OpenClaim := { program := "ytfchakfkgmhagaagreat", sum := "5de9a36c14eae303fe7662476cbc272235d6050d2b2effcb86ce0b99bf0b7663", func := "loop.example/importhouse/laws.FnEdgesOf", spec := "fnEdgesOf", unfollowed := true, recurses := true, plainKeys := false, apart := false, narrowed := true }
def FnEdgesOfUptoSaid : Prop := fnEdgesOfUptoRow.holds Tryz.pinned (OpenSpec.upto fnEdgesOfSpec)

/-- 'laws.FnReachOf', WHERE WHAT IT READS IS OF BULK AT MOST 1048576: true; the input reads as it did. -/
def fnReachOfUptoRow : OpenClaim := { program := "ytfchakfkgmhagaagreat", sum := "5de9a36c14eae303fe7662476cbc272235d6050d2b2effcb86ce0b99bf0b7663", func := "loop.example/importhouse/laws.FnReachOf", spec := "fnReachOf", unfollowed := true, recurses := true, plainKeys := false, apart := false, narrowed := true }
def FnReachOfUptoSaid : Prop := fnReachOfUptoRow.holds Tryz.pinned (OpenSpec.upto fnReachOfSpec)

end Rows
end Go.Proofs.YtfchakfkgmhagaaGreat
