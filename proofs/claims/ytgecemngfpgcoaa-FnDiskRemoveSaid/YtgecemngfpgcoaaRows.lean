/-
  No cell of these rows narrows 'for every input' (looked for: loops, veiled, ifaces, maps, wideKeys, modest, calm, conditions, laid).
  DERIVED. THE GIVEN ROWS OF THIS SEAT. 7 by the template 'for every input the law returns true; each argument reads behind the call as it read before'; 0 by the template 'total and deterministic' (their statements: YtgecemngfpgcoaaTotals.lean).
  GIVEN WITH THE SEED: the statements are not yours to turn. If you find one false, say at which input.
  Laid BY PROGRAM, IN A SANDBOX (cutbox-rows.mjs): the forced cells as the released guide's own fill.sh prints them over the translation 526eac9708b55498… (all of the seat's roots in one cut). By AI agents, Wed Nov 11 2026. No macro, syntax, notation, axiom, sorry.
-/
import Derived.Test.YtgecemngfpgcoaaChecked
import GoSem.Claim
import GoSem.ClaimJoined
import GoSem.ClaimMapViews
import Derived.JoinedTies
import Derived.KernelRfl
namespace Go.Proofs.Ytgecemngfpgcoaa
/- THE CELL 'sum', in the pinned program and in every row, IS THE sha256 OF THE DUMP (.gsa) THAT YtgecemngfpgcoaaProg.lean LOADS. Nothing in Lean hashes anything: it is a label: what it is worth is what the hold of that sum in a sandbox is worth. -/
noncomputable def Try.pinned : Pinned := { name := "ytgecemngfpgcoaa", sum := "526eac9708b554981a5fdaf1e4bc2a0159873b141cda1f2a5b8c149ace8c54e1", checked := Try.checked }
namespace Rows
def none {H : Type} : Left H := { results := [], args := [] }

/-- 'laws.FnDiskRemove': WHATEVER THE INPUT: true; the input reads as it did. -/
def fnDiskRemoveSpec : ChangeSpec := { name := "fnDiskRemove", fn := fun _ => fun
  | [d] => { results := [.lit (.bool true)], args := [d] }
  | _ => none }
def fnDiskRemoveRow : OpenClaim := { program := "ytgecemngfpgcoaa", sum := "526eac9708b554981a5fdaf1e4bc2a0159873b141cda1f2a5b8c149ace8c54e1", func := "loop.example/importhouse/laws.FnDiskRemove", spec := "fnDiskRemove", plainKeys := false, apart := false }
def FnDiskRemoveSaid : Prop := fnDiskRemoveRow.holds Try.pinned (OpenSpec.ofChange fnDiskRemoveSpec)

/-- ITS FALSE NEIGHBOUR: 'it returns false'. Refute it at one input. -/
def fnDiskRemoveWrong : ChangeSpec := { name := "fnDiskRemove", fn := fun _ => fun
  | [d] => { results := [.lit (.bool false)], args := [d] }
  | _ => none }
def FnDiskRemoveWrongFalsely : Prop := fnDiskRemoveRow.holds Try.pinned (OpenSpec.ofChange fnDiskRemoveWrong)

/-- 'laws.FnExactDiskAdd': WHATEVER THE INPUT: true; the input reads as it did. -/
def fnExactDiskAddSpec : ChangeSpec := { name := "fnExactDiskAdd", fn := fun _ => fun
  | [d1, d2, d3] => { results := [.lit (.bool true)], args := [d1, d2, d3] }
  | _ => none }
def fnExactDiskAddRow : OpenClaim := { program := "ytgecemngfpgcoaa", sum := "526eac9708b554981a5fdaf1e4bc2a0159873b141cda1f2a5b8c149ace8c54e1", func := "loop.example/importhouse/laws.FnExactDiskAdd", spec := "fnExactDiskAdd", plainKeys := false, apart := false }
def FnExactDiskAddSaid : Prop := fnExactDiskAddRow.holds Try.pinned (OpenSpec.ofChange fnExactDiskAddSpec)

/-- ITS FALSE NEIGHBOUR: 'it returns false'. Refute it at one input. -/
def fnExactDiskAddWrong : ChangeSpec := { name := "fnExactDiskAdd", fn := fun _ => fun
  | [d1, d2, d3] => { results := [.lit (.bool false)], args := [d1, d2, d3] }
  | _ => none }
def FnExactDiskAddWrongFalsely : Prop := fnExactDiskAddRow.holds Try.pinned (OpenSpec.ofChange fnExactDiskAddWrong)

/-- 'laws.FnExactDiskRemove': WHATEVER THE INPUT: true; the input reads as it did. -/
def fnExactDiskRemoveSpec : ChangeSpec := { name := "fnExactDiskRemove", fn := fun _ => fun
  | [d1, d2, d3] => { results := [.lit (.bool true)], args := [d1, d2, d3] }
  | _ => none }
def fnExactDiskRemoveRow : OpenClaim := { program := "ytgecemngfpgcoaa", sum := "526eac9708b554981a5fdaf1e4bc2a0159873b141cda1f2a5b8c149ace8c54e1", func := "loop.example/importhouse/laws.FnExactDiskRemove", spec := "fnExactDiskRemove", plainKeys := false, apart := false }
def FnExactDiskRemoveSaid : Prop := fnExactDiskRemoveRow.holds Try.pinned (OpenSpec.ofChange fnExactDiskRemoveSpec)

/-- ITS FALSE NEIGHBOUR: 'it returns false'. Refute it at one input. -/
def fnExactDiskRemoveWrong : ChangeSpec := { name := "fnExactDiskRemove", fn := fun _ => fun
  | [d1, d2, d3] => { results := [.lit (.bool false)], args := [d1, d2, d3] }
  | _ => none }
def FnExactDiskRemoveWrongFalsely : Prop := fnExactDiskRemoveRow.holds Try.pinned (OpenSpec.ofChange fnExactDiskRemoveWrong)

/-- 'laws.FnForgetAll': WHATEVER THE INPUT: true; the input reads as it did. -/
def fnForgetAllSpec : ChangeSpec := { name := "fnForgetAll", fn := fun _ => fun
  | [d] => { results := [.lit (.bool true)], args := [d] }
  | _ => none }
def fnForgetAllRow : OpenClaim := { program := "ytgecemngfpgcoaa", sum := "526eac9708b554981a5fdaf1e4bc2a0159873b141cda1f2a5b8c149ace8c54e1", func := "loop.example/importhouse/laws.FnForgetAll", spec := "fnForgetAll", plainKeys := false, apart := false }
def FnForgetAllSaid : Prop := fnForgetAllRow.holds Try.pinned (OpenSpec.ofChange fnForgetAllSpec)

/-- ITS FALSE NEIGHBOUR: 'it returns false'. Refute it at one input. -/
def fnForgetAllWrong : ChangeSpec := { name := "fnForgetAll", fn := fun _ => fun
  | [d] => { results := [.lit (.bool false)], args := [d] }
  | _ => none }
def FnForgetAllWrongFalsely : Prop := fnForgetAllRow.holds Try.pinned (OpenSpec.ofChange fnForgetAllWrong)

/-- 'laws.FnStampOf': WHATEVER THE INPUT: true; the input reads as it did. -/
def fnStampOfSpec : ChangeSpec := { name := "fnStampOf", fn := fun _ => fun
  | [d] => { results := [.lit (.bool true)], args := [d] }
  | _ => none }
def fnStampOfRow : OpenClaim := { program := "ytgecemngfpgcoaa", sum := "526eac9708b554981a5fdaf1e4bc2a0159873b141cda1f2a5b8c149ace8c54e1", func := "loop.example/importhouse/laws.FnStampOf", spec := "fnStampOf", plainKeys := false, apart := false }
def FnStampOfSaid : Prop := fnStampOfRow.holds Try.pinned (OpenSpec.ofChange fnStampOfSpec)

/-- ITS FALSE NEIGHBOUR: 'it returns false'. Refute it at one input. -/
def fnStampOfWrong : ChangeSpec := { name := "fnStampOf", fn := fun _ => fun
  | [d] => { results := [.lit (.bool false)], args := [d] }
  | _ => none }
def FnStampOfWrongFalsely : Prop := fnStampOfRow.holds Try.pinned (OpenSpec.ofChange fnStampOfWrong)

/-- 'laws.FnValidDisk': WHATEVER THE INPUT: true; the input reads as it did. -/
def fnValidDiskSpec : ChangeSpec := { name := "fnValidDisk", fn := fun _ => fun
  | [d] => { results := [.lit (.bool true)], args := [d] }
  | _ => none }
def fnValidDiskRow : OpenClaim := { program := "ytgecemngfpgcoaa", sum := "526eac9708b554981a5fdaf1e4bc2a0159873b141cda1f2a5b8c149ace8c54e1", func := "loop.example/importhouse/laws.FnValidDisk", spec := "fnValidDisk", plainKeys := false, apart := false }
def FnValidDiskSaid : Prop := fnValidDiskRow.holds Try.pinned (OpenSpec.ofChange fnValidDiskSpec)

/-- ITS FALSE NEIGHBOUR: 'it returns false'. Refute it at one input. -/
def fnValidDiskWrong : ChangeSpec := { name := "fnValidDisk", fn := fun _ => fun
  | [d] => { results := [.lit (.bool false)], args := [d] }
  | _ => none }
def FnValidDiskWrongFalsely : Prop := fnValidDiskRow.holds Try.pinned (OpenSpec.ofChange fnValidDiskWrong)

/-- 'laws.FnValidFinder': WHATEVER THE INPUT: true; the input reads as it did. -/
def fnValidFinderSpec : ChangeSpec := { name := "fnValidFinder", fn := fun _ => fun
  | [d] => { results := [.lit (.bool true)], args := [d] }
  | _ => none }
def fnValidFinderRow : OpenClaim := { program := "ytgecemngfpgcoaa", sum := "526eac9708b554981a5fdaf1e4bc2a0159873b141cda1f2a5b8c149ace8c54e1", func := "loop.example/importhouse/laws.FnValidFinder", spec := "fnValidFinder", plainKeys := false, apart := false }
def FnValidFinderSaid : Prop := fnValidFinderRow.holds Try.pinned (OpenSpec.ofChange fnValidFinderSpec)

/-- ITS FALSE NEIGHBOUR: 'it returns false'. Refute it at one input. -/
def fnValidFinderWrong : ChangeSpec := { name := "fnValidFinder", fn := fun _ => fun
  | [d] => { results := [.lit (.bool false)], args := [d] }
  | _ => none }
def FnValidFinderWrongFalsely : Prop := fnValidFinderRow.holds Try.pinned (OpenSpec.ofChange fnValidFinderWrong)

/- THE SECOND FORM. 'bulk': how many values and letters a reading holds, each counted each time it is reached (what is shared counts as often as it is met; a slice's spare places count too). A statement '..UptoSaid' is the law's where the arguments, and the package variables that the reading takes, are together of bulk at most 1048576: NARROWER than '..Said'. Prove '..Said' where nothing that the law and all that it calls make is longer than what came in: it says more and counts as full. Else prove '..UptoSaid'. A law counts once. -/
mutual
def uptoBulk {H : Type} : DataW H → Nat
  | .lit (.string bytes) => bytes.length + 1
  | .lit _ => 1
  | .nil => 1
  | .ptr d => uptoBulk d + 1
  | .slice elems spare => uptoBulkAll elems + uptoBulkAll spare + 1
  | .agg parts => uptoBulkAll parts + 1
  | .iface _ d => uptoBulk d + 1
  | .map entries => uptoBulkEntries entries + 1
  | .held _ => 1
def uptoBulkAll {H : Type} : List (DataW H) → Nat
  | [] => 0
  | d :: r => uptoBulk d + uptoBulkAll r
def uptoBulkEntries {H : Type} : List (Lit × DataW H) → Nat
  | [] => 0
  | x :: r => uptoBulkEntry x + uptoBulkEntries r
def uptoBulkEntry {H : Type} : Lit × DataW H → Nat
  | (.string bytes, d) => bytes.length + uptoBulk d + 1
  | (_, d) => uptoBulk d + 1
 end
def uptoSmall : (H : Type) → List (DataW H) → Bool := fun _ ds => decide (uptoBulkAll ds ≤ 1048576)
def OpenSpec.upto (s : _root_.Go.ChangeSpec) : _root_.Go.OpenSpec := { _root_.Go.OpenSpec.ofChange s with cond := some uptoSmall }

/-- 'laws.FnDiskRemove', WHERE WHAT IT READS IS OF BULK AT MOST 1048576: true; the input reads as it did. -/
def fnDiskRemoveUptoRow : OpenClaim := { program := "ytgecemngfpgcoaa", sum := "526eac9708b554981a5fdaf1e4bc2a0159873b141cda1f2a5b8c149ace8c54e1", func := "loop.example/importhouse/laws.FnDiskRemove", spec := "fnDiskRemove", plainKeys := false, apart := false, narrowed := true }
def FnDiskRemoveUptoSaid : Prop := fnDiskRemoveUptoRow.holds Try.pinned (OpenSpec.upto fnDiskRemoveSpec)

/-- 'laws.FnExactDiskAdd', WHERE WHAT IT READS IS OF BULK AT MOST 1048576: true; the input reads as it did. -/
def fnExactDiskAddUptoRow : OpenClaim := { program := "ytgecemngfpgcoaa", sum := "526eac9708b554981a5fdaf1e4bc2a0159873b141cda1f2a5b8c149ace8c54e1", func := "loop.example/importhouse/laws.FnExactDiskAdd", spec := "fnExactDiskAdd", plainKeys := false, apart := false, narrowed := true }
def FnExactDiskAddUptoSaid : Prop := fnExactDiskAddUptoRow.holds Try.pinned (OpenSpec.upto fnExactDiskAddSpec)

/-- 'laws.FnExactDiskRemove', WHERE WHAT IT READS IS OF BULK AT MOST 1048576: true; the input reads as it did. -/
def fnExactDiskRemoveUptoRow : OpenClaim := { program := "ytgecemngfpgcoaa", sum := "526eac9708b554981a5fdaf1e4bc2a0159873b141cda1f2a5b8c149ace8c54e1", func := "loop.example/importhouse/laws.FnExactDiskRemove", spec := "fnExactDiskRemove", plainKeys := false, apart := false, narrowed := true }
def FnExactDiskRemoveUptoSaid : Prop := fnExactDiskRemoveUptoRow.holds Try.pinned (OpenSpec.upto fnExactDiskRemoveSpec)

/-- 'laws.FnForgetAll', WHERE WHAT IT READS IS OF BULK AT MOST 1048576: true; the input reads as it did. -/
def fnForgetAllUptoRow : OpenClaim := { program := "ytgecemngfpgcoaa", sum := "526eac9708b554981a5fdaf1e4bc2a0159873b141cda1f2a5b8c149ace8c54e1", func := "loop.example/importhouse/laws.FnForgetAll", spec := "fnForgetAll", plainKeys := false, apart := false, narrowed := true }
def FnForgetAllUptoSaid : Prop := fnForgetAllUptoRow.holds Try.pinned (OpenSpec.upto fnForgetAllSpec)

/-- 'laws.FnStampOf', WHERE WHAT IT READS IS OF BULK AT MOST 1048576: true; the input reads as it did. -/
def fnStampOfUptoRow : OpenClaim := { program := "ytgecemngfpgcoaa", sum := "526eac9708b554981a5fdaf1e4bc2a0159873b141cda1f2a5b8c149ace8c54e1", func := "loop.example/importhouse/laws.FnStampOf", spec := "fnStampOf", plainKeys := false, apart := false, narrowed := true }
def FnStampOfUptoSaid : Prop := fnStampOfUptoRow.holds Try.pinned (OpenSpec.upto fnStampOfSpec)

/-- 'laws.FnValidDisk', WHERE WHAT IT READS IS OF BULK AT MOST 1048576: true; the input reads as it did. -/
def fnValidDiskUptoRow : OpenClaim := { program := "ytgecemngfpgcoaa", sum := "526eac9708b554981a5fdaf1e4bc2a0159873b141cda1f2a5b8c149ace8c54e1", func := "loop.example/importhouse/laws.FnValidDisk", spec := "fnValidDisk", plainKeys := false, apart := false, narrowed := true }
def FnValidDiskUptoSaid : Prop := fnValidDiskUptoRow.holds Try.pinned (OpenSpec.upto fnValidDiskSpec)

/-- 'laws.FnValidFinder', WHERE WHAT IT READS IS OF BULK AT MOST 1048576: true; the input reads as it did. -/
def fnValidFinderUptoRow : OpenClaim := { program := "ytgecemngfpgcoaa", sum := "526eac9708b554981a5fdaf1e4bc2a0159873b141cda1f2a5b8c149ace8c54e1", func := "loop.example/importhouse/laws.FnValidFinder", spec := "fnValidFinder", plainKeys := false, apart := false, narrowed := true }
def FnValidFinderUptoSaid : Prop := fnValidFinderUptoRow.holds Try.pinned (OpenSpec.upto fnValidFinderSpec)

end Rows
end Go.Proofs.Ytgecemngfpgcoaa
