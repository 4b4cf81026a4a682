/-
  No cell of these rows narrows 'for every input' (looked for: loops, veiled, ifaces, maps, wideKeys, modest, calm, conditions, laid).
  DERIVED. THE GIVEN ROWS OF THIS SEAT. 11 by the template 'for every input the law returns true; each argument reads behind the call as it read before'; 0 by the template 'total and deterministic' (their statements: YtcmnldomcpjlcaaGreatTotals.lean).
  GIVEN WITH THE SEED: the statements are not yours to turn. If you find one false, say at which input.
  Laid BY PROGRAM, IN A SANDBOX (cutbox-rows.mjs): the forced cells as the released guide's own fill.sh prints them over the translation 25e2ec14b8cd8820… (all of the seat's roots in one cut). By AI agents, Wed Nov 11 2026. No macro, syntax, notation, axiom, sorry.
-/
import Derived.Test.YtcmnldomcpjlcaaGreatChecked
import GoSem.Claim
import GoSem.ClaimJoined
import GoSem.ClaimMapViews
import Derived.JoinedTies
import Derived.KernelRfl
namespace Go.Proofs.YtcmnldomcpjlcaaGreat
/- THE CELL 'sum', in the pinned program and in every row, IS THE sha256 OF THE DUMP (.gsa) THAT YtcmnldomcpjlcaaGreatProg.lean LOADS. Nothing in Lean hashes anything: it is a label: what it is worth is what the hold of that sum in a sandbox is worth. -/
noncomputable def Tryz.pinned : Pinned := { name := "ytcmnldomcpjlcaagreat", sum := "25e2ec14b8cd882024bcf2da9748f99cb9dead2d00f44ffebdad74be0f81e7cc", checked := Tryz.checked }
namespace Rows
def none {H : Type} : Left H := { results := [], args := [] }

/-- 'laws.FnExactMissingOf': WHATEVER THE INPUT: true; the input reads as it did. -/
def fnExactMissingOfSpec : ChangeSpec := { name := "fnExactMissingOf", fn := fun _ => fun
  | [d1, d2, d3] => { results := [.lit (.bool true)], args := [d1, d2, d3] }
  | _ => none }
def fnExactMissingOfRow : OpenClaim := { program := "ytcmnldomcpjlcaagreat", sum := "25e2ec14b8cd882024bcf2da9748f99cb9dead2d00f44ffebdad74be0f81e7cc", func := "loop.example/importhouse/laws.FnExactMissingOf", spec := "fnExactMissingOf", unfollowed := true, recurses := true, plainKeys := false, apart := false }
def FnExactMissingOfSaid : Prop := fnExactMissingOfRow.holds Tryz.pinned (OpenSpec.ofChange fnExactMissingOfSpec)

/-- ITS FALSE NEIGHBOUR: 'it returns false'. Refute it at one input. -/
def fnExactMissingOfWrong : ChangeSpec := { name := "fnExactMissingOf", fn := fun _ => fun
  | [d1, d2, d3] => { results := [.lit (.bool false)], args := [d1, d2, d3] }
  | _ => none }
def FnExactMissingOfWrongFalsely : Prop := fnExactMissingOfRow.holds Tryz.pinned (OpenSpec.ofChange fnExactMissingOfWrong)

/-- 'laws.FnExactRingsOf': WHATEVER THE INPUT: true; the input reads as it did. -/
def fnExactRingsOfSpec : ChangeSpec := { name := "fnExactRingsOf", fn := fun _ => fun
  | [d1, d2, d3] => { results := [.lit (.bool true)], args := [d1, d2, d3] }
  | _ => none }
def fnExactRingsOfRow : OpenClaim := { program := "ytcmnldomcpjlcaagreat", sum := "25e2ec14b8cd882024bcf2da9748f99cb9dead2d00f44ffebdad74be0f81e7cc", func := "loop.example/importhouse/laws.FnExactRingsOf", spec := "fnExactRingsOf", unfollowed := true, recurses := true, plainKeys := false, apart := false }
def FnExactRingsOfSaid : Prop := fnExactRingsOfRow.holds Tryz.pinned (OpenSpec.ofChange fnExactRingsOfSpec)

/-- ITS FALSE NEIGHBOUR: 'it returns false'. Refute it at one input. -/
def fnExactRingsOfWrong : ChangeSpec := { name := "fnExactRingsOf", fn := fun _ => fun
  | [d1, d2, d3] => { results := [.lit (.bool false)], args := [d1, d2, d3] }
  | _ => none }
def FnExactRingsOfWrongFalsely : Prop := fnExactRingsOfRow.holds Tryz.pinned (OpenSpec.ofChange fnExactRingsOfWrong)

/-- 'laws.FnExactPlainOrder': WHATEVER THE INPUT: true; the input reads as it did. -/
def fnExactPlainOrderSpec : ChangeSpec := { name := "fnExactPlainOrder", fn := fun _ => fun
  | [d1, d2, d3] => { results := [.lit (.bool true)], args := [d1, d2, d3] }
  | _ => none }
def fnExactPlainOrderRow : OpenClaim := { program := "ytcmnldomcpjlcaagreat", sum := "25e2ec14b8cd882024bcf2da9748f99cb9dead2d00f44ffebdad74be0f81e7cc", func := "loop.example/importhouse/laws.FnExactPlainOrder", spec := "fnExactPlainOrder", unfollowed := true, recurses := true, plainKeys := false, apart := false }
def FnExactPlainOrderSaid : Prop := fnExactPlainOrderRow.holds Tryz.pinned (OpenSpec.ofChange fnExactPlainOrderSpec)

/-- ITS FALSE NEIGHBOUR: 'it returns false'. Refute it at one input. -/
def fnExactPlainOrderWrong : ChangeSpec := { name := "fnExactPlainOrder", fn := fun _ => fun
  | [d1, d2, d3] => { results := [.lit (.bool false)], args := [d1, d2, d3] }
  | _ => none }
def FnExactPlainOrderWrongFalsely : Prop := fnExactPlainOrderRow.holds Tryz.pinned (OpenSpec.ofChange fnExactPlainOrderWrong)

/-- 'laws.FnExactIsSimple': WHATEVER THE INPUT: true; the input reads as it did. -/
def fnExactIsSimpleSpec : ChangeSpec := { name := "fnExactIsSimple", fn := fun _ => fun
  | [d1, d2, d3] => { results := [.lit (.bool true)], args := [d1, d2, d3] }
  | _ => none }
def fnExactIsSimpleRow : OpenClaim := { program := "ytcmnldomcpjlcaagreat", sum := "25e2ec14b8cd882024bcf2da9748f99cb9dead2d00f44ffebdad74be0f81e7cc", func := "loop.example/importhouse/laws.FnExactIsSimple", spec := "fnExactIsSimple", unfollowed := true, recurses := true, plainKeys := false, apart := false }
def FnExactIsSimpleSaid : Prop := fnExactIsSimpleRow.holds Tryz.pinned (OpenSpec.ofChange fnExactIsSimpleSpec)

/-- ITS FALSE NEIGHBOUR: 'it returns false'. Refute it at one input. -/
def fnExactIsSimpleWrong : ChangeSpec := { name := "fnExactIsSimple", fn := fun _ => fun
  | [d1, d2, d3] => { results := [.lit (.bool false)], args := [d1, d2, d3] }
  | _ => none }
def FnExactIsSimpleWrongFalsely : Prop := fnExactIsSimpleRow.holds Tryz.pinned (OpenSpec.ofChange fnExactIsSimpleWrong)

/-- 'laws.FnExactLayersOf': WHATEVER THE INPUT: true; the input reads as it did. -/
def fnExactLayersOfSpec : ChangeSpec := { name := "fnExactLayersOf", fn := fun _ => fun
  | [d1, d2, d3] => { results := [.lit (.bool true)], args := [d1, d2, d3] }
  | _ => none }
def fnExactLayersOfRow : OpenClaim := { program := "ytcmnldomcpjlcaagreat", sum := "25e2ec14b8cd882024bcf2da9748f99cb9dead2d00f44ffebdad74be0f81e7cc", func := "loop.example/importhouse/laws.FnExactLayersOf", spec := "fnExactLayersOf", unfollowed := true, recurses := true, plainKeys := false, apart := false }
def FnExactLayersOfSaid : Prop := fnExactLayersOfRow.holds Tryz.pinned (OpenSpec.ofChange fnExactLayersOfSpec)

/-- ITS FALSE NEIGHBOUR: 'it returns false'. Refute it at one input. -/
def fnExactLayersOfWrong : ChangeSpec := { name := "fnExactLayersOf", fn := fun _ => fun
  | [d1, d2, d3] => { results := [.lit (.bool false)], args := [d1, d2, d3] }
  | _ => none }
def FnExactLayersOfWrongFalsely : Prop := fnExactLayersOfRow.holds Tryz.pinned (OpenSpec.ofChange fnExactLayersOfWrong)

/-- 'laws.FnReachOf': WHATEVER THE INPUT: true; the input reads as it did. -/
def fnReachOfSpec : ChangeSpec := { name := "fnReachOf", fn := fun _ => fun
  | [d] => { results := [.lit (.bool true)], args := [d] }
  | _ => none }
def fnReachOfRow : OpenClaim := { program := "ytcmnldomcpjlcaagreat", sum := "25e2ec14b8cd882024bcf2da9748f99cb9dead2d00f44ffebdad74be0f81e7cc", func := "loop.example/importhouse/laws.FnReachOf", spec := "fnReachOf", unfollowed := true, recurses := true, plainKeys := false, apart := false }
def FnReachOfSaid : Prop := fnReachOfRow.holds Tryz.pinned (OpenSpec.ofChange fnReachOfSpec)

/-- ITS FALSE NEIGHBOUR: 'it returns false'. Refute it at one input. -/
def fnReachOfWrong : ChangeSpec := { name := "fnReachOf", fn := fun _ => fun
  | [d] => { results := [.lit (.bool false)], args := [d] }
  | _ => none }
def FnReachOfWrongFalsely : Prop := fnReachOfRow.holds Tryz.pinned (OpenSpec.ofChange fnReachOfWrong)

/-- 'laws.FnMissingOf': WHATEVER THE INPUT: true; the input reads as it did. -/
def fnMissingOfSpec : ChangeSpec := { name := "fnMissingOf", fn := fun _ => fun
  | [d] => { results := [.lit (.bool true)], args := [d] }
  | _ => none }
def fnMissingOfRow : OpenClaim := { program := "ytcmnldomcpjlcaagreat", sum := "25e2ec14b8cd882024bcf2da9748f99cb9dead2d00f44ffebdad74be0f81e7cc", func := "loop.example/importhouse/laws.FnMissingOf", spec := "fnMissingOf", unfollowed := true, recurses := true, plainKeys := false, apart := false }
def FnMissingOfSaid : Prop := fnMissingOfRow.holds Tryz.pinned (OpenSpec.ofChange fnMissingOfSpec)

/-- ITS FALSE NEIGHBOUR: 'it returns false'. Refute it at one input. -/
def fnMissingOfWrong : ChangeSpec := { name := "fnMissingOf", fn := fun _ => fun
  | [d] => { results := [.lit (.bool false)], args := [d] }
  | _ => none }
def FnMissingOfWrongFalsely : Prop := fnMissingOfRow.holds Tryz.pinned (OpenSpec.ofChange fnMissingOfWrong)

/-- 'laws.FnRingsOf': WHATEVER THE INPUT: true; the input reads as it did. -/
def fnRingsOfSpec : ChangeSpec := { name := "fnRingsOf", fn := fun _ => fun
  | [d] => { results := [.lit (.bool true)], args := [d] }
  | _ => none }
def fnRingsOfRow : OpenClaim := { program := "ytcmnldomcpjlcaagreat", sum := "25e2ec14b8cd882024bcf2da9748f99cb9dead2d00f44ffebdad74be0f81e7cc", func := "loop.example/importhouse/laws.FnRingsOf", spec := "fnRingsOf", unfollowed := true, recurses := true, plainKeys := false, apart := false }
def FnRingsOfSaid : Prop := fnRingsOfRow.holds Tryz.pinned (OpenSpec.ofChange fnRingsOfSpec)

/-- ITS FALSE NEIGHBOUR: 'it returns false'. Refute it at one input. -/
def fnRingsOfWrong : ChangeSpec := { name := "fnRingsOf", fn := fun _ => fun
  | [d] => { results := [.lit (.bool false)], args := [d] }
  | _ => none }
def FnRingsOfWrongFalsely : Prop := fnRingsOfRow.holds Tryz.pinned (OpenSpec.ofChange fnRingsOfWrong)

/-- 'laws.FnPlainOrderNeeds': WHATEVER THE INPUT: true; the input reads as it did. -/
def fnPlainOrderNeedsSpec : ChangeSpec := { name := "fnPlainOrderNeeds", fn := fun _ => fun
  | [d] => { results := [.lit (.bool true)], args := [d] }
  | _ => none }
def fnPlainOrderNeedsRow : OpenClaim := { program := "ytcmnldomcpjlcaagreat", sum := "25e2ec14b8cd882024bcf2da9748f99cb9dead2d00f44ffebdad74be0f81e7cc", func := "loop.example/importhouse/laws.FnPlainOrderNeeds", spec := "fnPlainOrderNeeds", unfollowed := true, recurses := true, plainKeys := false, apart := false }
def FnPlainOrderNeedsSaid : Prop := fnPlainOrderNeedsRow.holds Tryz.pinned (OpenSpec.ofChange fnPlainOrderNeedsSpec)

/-- ITS FALSE NEIGHBOUR: 'it returns false'. Refute it at one input. -/
def fnPlainOrderNeedsWrong : ChangeSpec := { name := "fnPlainOrderNeeds", fn := fun _ => fun
  | [d] => { results := [.lit (.bool false)], args := [d] }
  | _ => none }
def FnPlainOrderNeedsWrongFalsely : Prop := fnPlainOrderNeedsRow.holds Tryz.pinned (OpenSpec.ofChange fnPlainOrderNeedsWrong)

/-- 'laws.FnUsersOf': WHATEVER THE INPUT: true; the input reads as it did. -/
def fnUsersOfSpec : ChangeSpec := { name := "fnUsersOf", fn := fun _ => fun
  | [d] => { results := [.lit (.bool true)], args := [d] }
  | _ => none }
def fnUsersOfRow : OpenClaim := { program := "ytcmnldomcpjlcaagreat", sum := "25e2ec14b8cd882024bcf2da9748f99cb9dead2d00f44ffebdad74be0f81e7cc", func := "loop.example/importhouse/laws.FnUsersOf", spec := "fnUsersOf", unfollowed := true, recurses := true, plainKeys := false, apart := false }
def FnUsersOfSaid : Prop := fnUsersOfRow.holds Tryz.pinned (OpenSpec.ofChange fnUsersOfSpec)

/-- ITS FALSE NEIGHBOUR: 'it returns false'. Refute it at one input. -/
def fnUsersOfWrong : ChangeSpec := { name := "fnUsersOf", fn := fun _ => fun
  | [d] => { results := [.lit (.bool false)], args := [d] }
  | _ => none }
def FnUsersOfWrongFalsely : Prop := fnUsersOfRow.holds Tryz.pinned (OpenSpec.ofChange fnUsersOfWrong)

/-- 'laws.FnLayersOf': WHATEVER THE INPUT: true; the input reads as it did. -/
def fnLayersOfSpec : ChangeSpec := { name := "fnLayersOf", fn := fun _ => fun
  | [d] => { results := [.lit (.bool true)], args := [d] }
  | _ => none }
def fnLayersOfRow : OpenClaim := { program := "ytcmnldomcpjlcaagreat", sum := "25e2ec14b8cd882024bcf2da9748f99cb9dead2d00f44ffebdad74be0f81e7cc", func := "loop.example/importhouse/laws.FnLayersOf", spec := "fnLayersOf", unfollowed := true, recurses := true, plainKeys := false, apart := false }
def FnLayersOfSaid : Prop := fnLayersOfRow.holds Tryz.pinned (OpenSpec.ofChange fnLayersOfSpec)

/-- ITS FALSE NEIGHBOUR: 'it returns false'. Refute it at one input. -/
def fnLayersOfWrong : ChangeSpec := { name := "fnLayersOf", fn := fun _ => fun
  | [d] => { results := [.lit (.bool false)], args := [d] }
  | _ => none }
def FnLayersOfWrongFalsely : Prop := fnLayersOfRow.holds Tryz.pinned (OpenSpec.ofChange fnLayersOfWrong)

/- THE SECOND FORM. 'bulk': how many values and letters a reading holds, each counted each time it is reached (what is shared counts as often as it is met; a slice's spare places count too). A statement '..UptoSaid' is the law's where the arguments, and the package variables that the reading takes, are together of bulk at most 1048576: NARROWER than '..Said'. Prove '..Said' where nothing that the law and all that it calls make is longer than what came in: it says more and counts as full. Else prove '..UptoSaid'. A law counts once. -/
mutual
def uptoBulk {H : Type} : DataW H → Nat
  | .lit (.string bytes) => bytes.length + 1
  | .lit _ => 1
  | .nil => 1
  | .ptr d => uptoBulk d + 1
  | .slice elems spare => uptoBulkAll elems + uptoBulkAll spare + 1
  | .agg parts => uptoBulkAll parts + 1
  | .iface _ d => uptoBulk d + 1
  | .map entries => uptoBulkEntries entries + 1
  | .held _ => 1
def uptoBulkAll {H : Type} : List (DataW H) → Nat
  | [] => 0
  | d :: r => uptoBulk d + uptoBulkAll r
def uptoBulkEntries {H : Type} : List (Lit × DataW H) → Nat
  | [] => 0
  | x :: r => uptoBulkEntry x + uptoBulkEntries r
def uptoBulkEntry {H : Type} : Lit × DataW H → Nat
  | (.string bytes, d) => bytes.length + uptoBulk d + 1
  | (_, d) => uptoBulk d + 1
 end
def uptoSmall : (H : Type) → List (DataW H) → Bool := fun _ ds => decide (uptoBulkAll ds ≤ 1048576)
def OpenSpec.upto (s : _root_.Go.ChangeSpec) : _root_.Go.OpenSpec := { _root_.Go.OpenSpec.ofChange s with cond := some uptoSmall }

/-- 'laws.FnExactMissingOf', WHERE WHAT IT READS IS OF BULK AT MOST 1048576: true; the input reads as it did. -/
def fnExactMissingOfUptoRow : OpenClaim := { program := "ytcmnldomcpjlcaagreat", sum := "25e2ec14b8cd882024bcf2da9748f99cb9dead2d00f44ffebdad74be0f81e7cc", func := "loop.example/importhouse/laws.FnExactMissingOf", spec := "fnExactMissingOf", unfollowed := true, recurses := true, plainKeys := false, apart := false, narrowed := true }
def FnExactMissingOfUptoSaid : Prop := fnExactMissingOfUptoRow.holds Tryz.pinned (OpenSpec.upto fnExactMissingOfSpec)

/-- 'laws.FnExactRingsOf', WHERE WHAT IT READS IS OF BULK AT MOST 1048576: true; the input reads as it did. -/
def fnExactRingsOfUptoRow : OpenClaim := { program := "ytcmnldomcpjlcaagreat", sum := "25e2ec14b8cd882024bcf2da9748f99cb9dead2d00f44ffebdad74be0f81e7cc", func := "loop.example/importhouse/laws.FnExactRingsOf", spec := "fnExactRingsOf", unfollowed := true, recurses := true, plainKeys := false, apart := false, narrowed := true }
def FnExactRingsOfUptoSaid : Prop := fnExactRingsOfUptoRow.holds Tryz.pinned (OpenSpec.upto fnExactRingsOfSpec)

/-- 'laws.FnExactPlainOrder', WHERE WHAT IT READS IS OF BULK AT MOST 1048576: true; the input reads as it did. -/
def fnExactPlainOrderUptoRow : OpenClaim := { program := "ytcmnldomcpjlcaagreat", sum := "25e2ec14b8cd882024bcf2da9748f99cb9dead2d00f44ffebdad74be0f81e7cc", func := "loop.example/importhouse/laws.FnExactPlainOrder", spec := "fnExactPlainOrder", unfollowed := true, recurses := true, plainKeys := false, apart := false, narrowed := true }
def FnExactPlainOrderUptoSaid : Prop := fnExactPlainOrderUptoRow.holds Tryz.pinned (OpenSpec.upto fnExactPlainOrderSpec)

/-- 'laws.FnExactIsSimple', WHERE WHAT IT READS IS OF BULK AT MOST 1048576: true; the input reads as it did. -/
def fnExactIsSimpleUptoRow : OpenClaim := { program := "ytcmnldomcpjlcaagreat", sum := "25e2ec14b8cd882024bcf2da9748f99cb9dead2d00f44ffebdad74be0f81e7cc", func := "loop.example/importhouse/laws.FnExactIsSimple", spec := "fnExactIsSimple", unfollowed := true, recurses := true, plainKeys := false, apart := false, narrowed := true }
def FnExactIsSimpleUptoSaid : Prop := fnExactIsSimpleUptoRow.holds Tryz.pinned (OpenSpec.upto fnExactIsSimpleSpec)

/-- 'laws.FnExactLayersOf', WHERE WHAT IT READS IS OF BULK AT MOST 1048576: true; the input reads as it did. -/
def fnExactLayersOfUptoRow : OpenClaim := { program := "ytcmnldomcpjlcaagreat", sum := "25e2ec14b8cd882024bcf2da9748f99cb9dead2d00f44ffebdad74be0f81e7cc", func := "loop.example/importhouse/laws.FnExactLayersOf", spec := "fnExactLayersOf", unfollowed := true, recurses := true, plainKeys := false, apart := false, narrowed := true }
def FnExactLayersOfUptoSaid : Prop := fnExactLayersOfUptoRow.holds Tryz.pinned (OpenSpec.upto fnExactLayersOfSpec)

/-- 'laws.FnReachOf', WHERE WHAT IT READS IS OF BULK AT MOST 1048576: true; the input reads as it did. -/
def fnReachOfUptoRow : OpenClaim := { program := "ytcmnldomcpjlcaagreat", sum := "25e2ec14b8cd882024bcf2da9748f99cb9dead2d00f44ffebdad74be0f81e7cc", func := "loop.example/importhouse/laws.FnReachOf", spec := "fnReachOf", unfollowed := true, recurses := true, plainKeys := false, apart := false, narrowed := true }
def FnReachOfUptoSaid : Prop := fnReachOfUptoRow.holds Tryz.pinned (OpenSpec.upto fnReachOfSpec)

/-- 'laws.FnMissingOf', WHERE WHAT IT READS IS OF BULK AT MOST 1048576: true; the input reads as it did. -/
def fnMissingOfUptoRow : OpenClaim := { program := "ytcmnldomcpjlcaagreat", sum := "25e2ec14b8cd882024bcf2da9748f99cb9dead2d00f44ffebdad74be0f81e7cc", func := "loop.example/importhouse/laws.FnMissingOf", spec := "fnMissingOf", unfollowed := true, recurses := true, plainKeys := false, apart := false, narrowed := true }
def FnMissingOfUptoSaid : Prop := fnMissingOfUptoRow.holds Tryz.pinned (OpenSpec.upto fnMissingOfSpec)

/-- 'laws.FnRingsOf', WHERE WHAT IT READS IS OF BULK AT MOST 1048576: true; the input reads as it did. -/
def fnRingsOfUptoRow : OpenClaim := { program := "ytcmnldomcpjlcaagreat", sum := "25e2ec14b8cd882024bcf2da9748f99cb9dead2d00f44ffebdad74be0f81e7cc", func := "loop.example/importhouse/laws.FnRingsOf", spec := "fnRingsOf", unfollowed := true, recurses := true, plainKeys := false, apart := false, narrowed := true }
def FnRingsOfUptoSaid : Prop := fnRingsOfUptoRow.holds Tryz.pinned (OpenSpec.upto fnRingsOfSpec)

/-- 'laws.FnPlainOrderNeeds', WHERE WHAT IT READS IS OF BULK AT MOST 1048576: true; the input reads as it did. -/
def fnPlainOrderNeedsUptoRow : OpenClaim := { program := "ytcmnldomcpjlcaagreat", sum := "25e2ec14b8cd882024bcf2da9748f99cb9dead2d00f44ffebdad74be0f81e7cc", func := "loop.example/importhouse/laws.FnPlainOrderNeeds", spec := "fnPlainOrderNeeds", unfollowed := true, recurses := true, plainKeys := false, apart := false, narrowed := true }
def FnPlainOrderNeedsUptoSaid : Prop := fnPlainOrderNeedsUptoRow.holds Tryz.pinned (OpenSpec.upto fnPlainOrderNeedsSpec)

/-- 'laws.FnUsersOf', WHERE WHAT IT READS IS OF BULK AT MOST 1048576: true; the input reads as it did. -/
def fnUsersOfUptoRow : OpenClaim := { program := "ytcmnldomcpjlcaagreat", sum := "25e2ec14b8cd882024bcf2da9748f99cb9dead2d00f44ffebdad74be0f81e7cc", func := "loop.example/importhouse/laws.FnUsersOf", spec := "fnUsersOf", unfollowed := true, recurses := true, plainKeys := false, apart := false, narrowed := true }
def FnUsersOfUptoSaid : Prop := fnUsersOfUptoRow.holds Tryz.pinned (OpenSpec.upto fnUsersOfSpec)

/-- 'laws.FnLayersOf', WHERE WHAT IT READS IS OF BULK AT MOST 1048576: true; the input reads as it did. -/
def fnLayersOfUptoRow : OpenClaim := { program := "ytcmnldomcpjlcaagreat", sum := "25e2ec14b8cd882024bcf2da9748f99cb9dead2d00f44ffebdad74be0f81e7cc", func := "loop.example/importhouse/laws.FnLayersOf", spec := "fnLayersOf", unfollowed := true, recurses := true, plainKeys := false, apart := false, narrowed := true }
def FnLayersOfUptoSaid : Prop := fnLayersOfUptoRow.holds Tryz.pinned (OpenSpec.upto fnLayersOfSpec)

end Rows
end Go.Proofs.YtcmnldomcpjlcaaGreat
