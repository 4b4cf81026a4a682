/-
  No cell of these rows narrows 'for every input' (looked for: loops, veiled, ifaces, maps, wideKeys, modest, calm, conditions, laid).
  DERIVED. THE GIVEN ROWS OF THIS SEAT. 4 by the template 'for every input the law returns true; each argument reads behind the call as it read before'; 0 by the template 'total and deterministic' (their statements: YtllopbfgiflokaaGreatTotals.lean).
  GIVEN WITH THE SEED: the statements are not yours to turn. If you find one false, say at which input.
  Laid BY PROGRAM, IN A SANDBOX (cutbox-rows.mjs): the forced cells as the released guide's own fill.sh prints them over the translation 6f6baf2d8f2a7b53… (all of the seat's roots in one cut). By AI agents, Wed Nov 11 2026. No macro, syntax, notation, axiom, sorry.
-/
import Derived.Test.YtllopbfgiflokaaGreatChecked
import GoSem.Claim
import GoSem.ClaimJoined
import GoSem.ClaimMapViews
import Derived.JoinedTies
import Derived.KernelRfl
namespace Go.Proofs.YtllopbfgiflokaaGreat
/- THE CELL 'sum', in the pinned program and in every row, IS THE sha256 OF THE DUMP (.gsa) THAT YtllopbfgiflokaaGreatProg.lean LOADS. Nothing in Lean hashes anything: it is a label: what it is worth is what the hold of that sum in a sandbox is worth. -/
noncomputable def Tryz.pinned : Pinned := { name := "ytllopbfgiflokaagreat", sum := "6f6baf2d8f2a7b530de67dc67b1f6a0495c4a55d8ae64ed1640f801f0e53b1f9", checked := Tryz.checked }
namespace Rows
def none {H : Type} : Left H := { results := [], args := [] }

/-- 'laws.FnExactStaleDirs': WHATEVER THE INPUT: true; the input reads as it did. -/
def fnExactStaleDirsSpec : ChangeSpec := { name := "fnExactStaleDirs", fn := fun _ => fun
  | [d1, d2] => { results := [.lit (.bool true)], args := [d1, d2] }
  | _ => none }
def fnExactStaleDirsRow : OpenClaim := { program := "ytllopbfgiflokaagreat", sum := "6f6baf2d8f2a7b530de67dc67b1f6a0495c4a55d8ae64ed1640f801f0e53b1f9", func := "loop.example/importhouse/laws.FnExactStaleDirs", spec := "fnExactStaleDirs", recurses := true, plainKeys := false, apart := false }
def FnExactStaleDirsSaid : Prop := fnExactStaleDirsRow.holds Tryz.pinned (OpenSpec.ofChange fnExactStaleDirsSpec)

/-- ITS FALSE NEIGHBOUR: 'it returns false'. Refute it at one input. -/
def fnExactStaleDirsWrong : ChangeSpec := { name := "fnExactStaleDirs", fn := fun _ => fun
  | [d1, d2] => { results := [.lit (.bool false)], args := [d1, d2] }
  | _ => none }
def FnExactStaleDirsWrongFalsely : Prop := fnExactStaleDirsRow.holds Tryz.pinned (OpenSpec.ofChange fnExactStaleDirsWrong)

/-- 'laws.FnExactFindCached': WHATEVER THE INPUT: true; the input reads as it did. -/
def fnExactFindCachedSpec : ChangeSpec := { name := "fnExactFindCached", fn := fun _ => fun
  | [d1, d2, d3, d4] => { results := [.lit (.bool true)], args := [d1, d2, d3, d4] }
  | _ => none }
def fnExactFindCachedRow : OpenClaim := { program := "ytllopbfgiflokaagreat", sum := "6f6baf2d8f2a7b530de67dc67b1f6a0495c4a55d8ae64ed1640f801f0e53b1f9", func := "loop.example/importhouse/laws.FnExactFindCached", spec := "fnExactFindCached", unfollowed := true, recurses := true, plainKeys := false, apart := false }
def FnExactFindCachedSaid : Prop := fnExactFindCachedRow.holds Tryz.pinned (OpenSpec.ofChange fnExactFindCachedSpec)

/-- ITS FALSE NEIGHBOUR: 'it returns false'. Refute it at one input. -/
def fnExactFindCachedWrong : ChangeSpec := { name := "fnExactFindCached", fn := fun _ => fun
  | [d1, d2, d3, d4] => { results := [.lit (.bool false)], args := [d1, d2, d3, d4] }
  | _ => none }
def FnExactFindCachedWrongFalsely : Prop := fnExactFindCachedRow.holds Tryz.pinned (OpenSpec.ofChange fnExactFindCachedWrong)

/-- 'laws.FnStaleDirs': WHATEVER THE INPUT: true; the input reads as it did. -/
def fnStaleDirsSpec : ChangeSpec := { name := "fnStaleDirs", fn := fun _ => fun
  | [d] => { results := [.lit (.bool true)], args := [d] }
  | _ => none }
def fnStaleDirsRow : OpenClaim := { program := "ytllopbfgiflokaagreat", sum := "6f6baf2d8f2a7b530de67dc67b1f6a0495c4a55d8ae64ed1640f801f0e53b1f9", func := "loop.example/importhouse/laws.FnStaleDirs", spec := "fnStaleDirs", recurses := true, plainKeys := false, apart := false }
def FnStaleDirsSaid : Prop := fnStaleDirsRow.holds Tryz.pinned (OpenSpec.ofChange fnStaleDirsSpec)

/-- ITS FALSE NEIGHBOUR: 'it returns false'. Refute it at one input. -/
def fnStaleDirsWrong : ChangeSpec := { name := "fnStaleDirs", fn := fun _ => fun
  | [d] => { results := [.lit (.bool false)], args := [d] }
  | _ => none }
def FnStaleDirsWrongFalsely : Prop := fnStaleDirsRow.holds Tryz.pinned (OpenSpec.ofChange fnStaleDirsWrong)

/-- 'laws.FnDiskAdd': WHATEVER THE INPUT: true; the input reads as it did. -/
def fnDiskAddSpec : ChangeSpec := { name := "fnDiskAdd", fn := fun _ => fun
  | [d] => { results := [.lit (.bool true)], args := [d] }
  | _ => none }
def fnDiskAddRow : OpenClaim := { program := "ytllopbfgiflokaagreat", sum := "6f6baf2d8f2a7b530de67dc67b1f6a0495c4a55d8ae64ed1640f801f0e53b1f9", func := "loop.example/importhouse/laws.FnDiskAdd", spec := "fnDiskAdd", recurses := true, plainKeys := false, apart := false }
def FnDiskAddSaid : Prop := fnDiskAddRow.holds Tryz.pinned (OpenSpec.ofChange fnDiskAddSpec)

/-- ITS FALSE NEIGHBOUR: 'it returns false'. Refute it at one input. -/
def fnDiskAddWrong : ChangeSpec := { name := "fnDiskAdd", fn := fun _ => fun
  | [d] => { results := [.lit (.bool false)], args := [d] }
  | _ => none }
def FnDiskAddWrongFalsely : Prop := fnDiskAddRow.holds Tryz.pinned (OpenSpec.ofChange fnDiskAddWrong)

/- THE SECOND FORM. 'bulk': how many values and letters a reading holds, each counted each time it is reached (what is shared counts as often as it is met; a slice's spare places count too). A statement '..UptoSaid' is the law's where the arguments, and the package variables that the reading takes, are together of bulk at most 1048576: NARROWER than '..Said'. Prove '..Said' where nothing that the law and all that it calls make is longer than what came in: it says more and counts as full. Else prove '..UptoSaid'. A law counts once. -/
mutual
def uptoBulk {H : Type} : DataW H → Nat
  | .lit (.string bytes) => bytes.length + 1
  | .lit _ => 1
  | .nil => 1
  | .ptr d => uptoBulk d + 1
  | .slice elems spare => uptoBulkAll elems + uptoBulkAll spare + 1
  | .agg parts => uptoBulkAll parts + 1
  | .iface _ d => uptoBulk d + 1
  | .map entries => uptoBulkEntries entries + 1
  | .held _ => 1
def uptoBulkAll {H : Type} : List (DataW H) → Nat
  | [] => 0
  | d :: r => uptoBulk d + uptoBulkAll r
def uptoBulkEntries {H : Type} : List (Lit × DataW H) → Nat
  | [] => 0
  | x :: r => uptoBulkEntry x + uptoBulkEntries r
def uptoBulkEntry {H : Type} : Lit × DataW H → Nat
  | (.string bytes, d) => bytes.length + uptoBulk d + 1
  | (_, d) => uptoBulk d + 1
 end
def uptoSmall : (H : Type) → List (DataW H) → Bool := fun _ ds => decide (uptoBulkAll ds ≤ 1048576)
def OpenSpec.upto (s : _root_.Go.ChangeSpec) : _root_.Go.OpenSpec := { _root_.Go.OpenSpec.ofChange s with cond := some uptoSmall }

/-- 'laws.FnExactStaleDirs', WHERE WHAT IT READS IS OF BULK AT MOST 1048576: true; the input reads as it did. -/
def fnExactStaleDirsUptoRow : OpenClaim := { program := "ytllopbfgiflokaagreat", sum := "6f6baf2d8f2a7b530de67dc67b1f6a0495c4a55d8ae64ed1640f801f0e53b1f9", func := "loop.example/importhouse/laws.FnExactStaleDirs", spec := "fnExactStaleDirs", recurses := true, plainKeys := false, apart := false, narrowed := true }
def FnExactStaleDirsUptoSaid : Prop := fnExactStaleDirsUptoRow.holds Tryz.pinned (OpenSpec.upto fnExactStaleDirsSpec)

/-- 'laws.FnExactFindCached', WHERE WHAT IT READS IS OF BULK AT MOST 1048576: true; the input reads as it did. -/
def fnExactFindCachedUptoRow : OpenClaim := { program := "ytllopbfgiflokaagreat", sum := "6f6baf2d8f2a7b530de67dc67b1f6a0495c4a55d8ae64ed1640f801f0e53b1f9", func := "loop.example/importhouse/laws.FnExactFindCached", spec := "fnExactFindCached", unfollowed := true, recurses := true, plainKeys := false, apart := false, narrowed := true }
def FnExactFindCachedUptoSaid : Prop := fnExactFindCachedUptoRow.holds Tryz.pinned (OpenSpec.upto fnExactFindCachedSpec)

/-- 'laws.FnStaleDirs', WHERE WHAT IT READS IS OF BULK AT MOST 1048576: true; the input reads as it did. -/
def fnStaleDirsUptoRow : OpenClaim := { program := "ytllopbfgiflokaagreat", sum := "6f6baf2d8f2a7b530de67dc67b1f6a0495c4a55d8ae64ed1640f801f0e53b1f9", func := "loop.example/importhouse/laws.FnStaleDirs", spec := "fnStaleDirs", recurses := true, plainKeys := false, apart := false, narrowed := true }
def FnStaleDirsUptoSaid : Prop := fnStaleDirsUptoRow.holds Tryz.pinned (OpenSpec.upto fnStaleDirsSpec)

/-- 'laws.FnDiskAdd', WHERE WHAT IT READS IS OF BULK AT MOST 1048576: true; the input reads as it did. -/
def fnDiskAddUptoRow : OpenClaim := { program := "ytllopbfgiflokaagreat", sum := "6f6baf2d8f2a7b530de67dc67b1f6a0495c4a55d8ae64ed1640f801f0e53b1f9", func := "loop.example/importhouse/laws.FnDiskAdd", spec := "fnDiskAdd", recurses := true, plainKeys := false, apart := false, narrowed := true }
def FnDiskAddUptoSaid : Prop := fnDiskAddUptoRow.holds Tryz.pinned (OpenSpec.upto fnDiskAddSpec)

end Rows
end Go.Proofs.YtllopbfgiflokaaGreat
