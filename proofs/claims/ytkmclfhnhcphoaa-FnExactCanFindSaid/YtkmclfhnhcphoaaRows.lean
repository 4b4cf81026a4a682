/-
  No cell of these rows narrows 'for every input' (looked for: loops, veiled, ifaces, maps, wideKeys, modest, calm, conditions, laid).
  DERIVED. THE GIVEN ROWS OF THIS SEAT. 9 by the template 'for every input the law returns true; each argument reads behind the call as it read before'; 0 by the template 'total and deterministic' (their statements: YtkmclfhnhcphoaaTotals.lean).
  GIVEN WITH THE SEED: the statements are not yours to turn. If you find one false, say at which input.
  Laid BY PROGRAM, IN A SANDBOX (cutbox-rows.mjs): the forced cells as the released guide's own fill.sh prints them over the translation 869933b6e209c645… (all of the seat's roots in one cut). By AI agents, Wed Nov 11 2026. No macro, syntax, notation, axiom, sorry.
-/
import Derived.Test.YtkmclfhnhcphoaaChecked
import GoSem.Claim
import GoSem.ClaimJoined
import GoSem.ClaimMapViews
import Derived.JoinedTies
import Derived.KernelRfl
namespace Go.Proofs.Ytkmclfhnhcphoaa
/- THE CELL 'sum', in the pinned program and in every row, IS THE sha256 OF THE DUMP (.gsa) THAT YtkmclfhnhcphoaaProg.lean LOADS. Nothing in Lean hashes anything: it is a label: what it is worth is what the hold of that sum in a sandbox is worth. -/
noncomputable def Try.pinned : Pinned := { name := "ytkmclfhnhcphoaa", sum := "869933b6e209c645fcdeef4aa6f993dd3a029d17d9e0458f8ed0cfd71ed5db99", checked := Try.checked }
namespace Rows
def none {H : Type} : Left H := { results := [], args := [] }

/-- 'laws.FnExactAddFile': WHATEVER THE INPUT: true; the input reads as it did. -/
def fnExactAddFileSpec : ChangeSpec := { name := "fnExactAddFile", fn := fun _ => fun
  | [d1, d2] => { results := [.lit (.bool true)], args := [d1, d2] }
  | _ => none }
def fnExactAddFileRow : OpenClaim := { program := "ytkmclfhnhcphoaa", sum := "869933b6e209c645fcdeef4aa6f993dd3a029d17d9e0458f8ed0cfd71ed5db99", func := "loop.example/importhouse/laws.FnExactAddFile", spec := "fnExactAddFile", plainKeys := false, apart := false }
def FnExactAddFileSaid : Prop := fnExactAddFileRow.holds Try.pinned (OpenSpec.ofChange fnExactAddFileSpec)

/-- ITS FALSE NEIGHBOUR: 'it returns false'. Refute it at one input. -/
def fnExactAddFileWrong : ChangeSpec := { name := "fnExactAddFile", fn := fun _ => fun
  | [d1, d2] => { results := [.lit (.bool false)], args := [d1, d2] }
  | _ => none }
def FnExactAddFileWrongFalsely : Prop := fnExactAddFileRow.holds Try.pinned (OpenSpec.ofChange fnExactAddFileWrong)

/-- 'laws.FnExactRemoveFile': WHATEVER THE INPUT: true; the input reads as it did. -/
def fnExactRemoveFileSpec : ChangeSpec := { name := "fnExactRemoveFile", fn := fun _ => fun
  | [d1, d2] => { results := [.lit (.bool true)], args := [d1, d2] }
  | _ => none }
def fnExactRemoveFileRow : OpenClaim := { program := "ytkmclfhnhcphoaa", sum := "869933b6e209c645fcdeef4aa6f993dd3a029d17d9e0458f8ed0cfd71ed5db99", func := "loop.example/importhouse/laws.FnExactRemoveFile", spec := "fnExactRemoveFile", plainKeys := false, apart := false }
def FnExactRemoveFileSaid : Prop := fnExactRemoveFileRow.holds Try.pinned (OpenSpec.ofChange fnExactRemoveFileSpec)

/-- ITS FALSE NEIGHBOUR: 'it returns false'. Refute it at one input. -/
def fnExactRemoveFileWrong : ChangeSpec := { name := "fnExactRemoveFile", fn := fun _ => fun
  | [d1, d2] => { results := [.lit (.bool false)], args := [d1, d2] }
  | _ => none }
def FnExactRemoveFileWrongFalsely : Prop := fnExactRemoveFileRow.holds Try.pinned (OpenSpec.ofChange fnExactRemoveFileWrong)

/-- 'laws.FnExactEditFile': WHATEVER THE INPUT: true; the input reads as it did. -/
def fnExactEditFileSpec : ChangeSpec := { name := "fnExactEditFile", fn := fun _ => fun
  | [d1, d2, d3, d4] => { results := [.lit (.bool true)], args := [d1, d2, d3, d4] }
  | _ => none }
def fnExactEditFileRow : OpenClaim := { program := "ytkmclfhnhcphoaa", sum := "869933b6e209c645fcdeef4aa6f993dd3a029d17d9e0458f8ed0cfd71ed5db99", func := "loop.example/importhouse/laws.FnExactEditFile", spec := "fnExactEditFile", plainKeys := false, apart := false }
def FnExactEditFileSaid : Prop := fnExactEditFileRow.holds Try.pinned (OpenSpec.ofChange fnExactEditFileSpec)

/-- ITS FALSE NEIGHBOUR: 'it returns false'. Refute it at one input. -/
def fnExactEditFileWrong : ChangeSpec := { name := "fnExactEditFile", fn := fun _ => fun
  | [d1, d2, d3, d4] => { results := [.lit (.bool false)], args := [d1, d2, d3, d4] }
  | _ => none }
def FnExactEditFileWrongFalsely : Prop := fnExactEditFileRow.holds Try.pinned (OpenSpec.ofChange fnExactEditFileWrong)

/-- 'laws.FnExactFindIn': WHATEVER THE INPUT: true; the input reads as it did. -/
def fnExactFindInSpec : ChangeSpec := { name := "fnExactFindIn", fn := fun _ => fun
  | [d1, d2, d3, d4] => { results := [.lit (.bool true)], args := [d1, d2, d3, d4] }
  | _ => none }
def fnExactFindInRow : OpenClaim := { program := "ytkmclfhnhcphoaa", sum := "869933b6e209c645fcdeef4aa6f993dd3a029d17d9e0458f8ed0cfd71ed5db99", func := "loop.example/importhouse/laws.FnExactFindIn", spec := "fnExactFindIn", unfollowed := true, recurses := true, plainKeys := false, apart := false }
def FnExactFindInSaid : Prop := fnExactFindInRow.holds Try.pinned (OpenSpec.ofChange fnExactFindInSpec)

/-- ITS FALSE NEIGHBOUR: 'it returns false'. Refute it at one input. -/
def fnExactFindInWrong : ChangeSpec := { name := "fnExactFindIn", fn := fun _ => fun
  | [d1, d2, d3, d4] => { results := [.lit (.bool false)], args := [d1, d2, d3, d4] }
  | _ => none }
def FnExactFindInWrongFalsely : Prop := fnExactFindInRow.holds Try.pinned (OpenSpec.ofChange fnExactFindInWrong)

/-- 'laws.FnExactFindSpec': WHATEVER THE INPUT: true; the input reads as it did. -/
def fnExactFindSpecSpec : ChangeSpec := { name := "fnExactFindSpec", fn := fun _ => fun
  | [d1, d2, d3] => { results := [.lit (.bool true)], args := [d1, d2, d3] }
  | _ => none }
def fnExactFindSpecRow : OpenClaim := { program := "ytkmclfhnhcphoaa", sum := "869933b6e209c645fcdeef4aa6f993dd3a029d17d9e0458f8ed0cfd71ed5db99", func := "loop.example/importhouse/laws.FnExactFindSpec", spec := "fnExactFindSpec", unfollowed := true, recurses := true, plainKeys := false, apart := false }
def FnExactFindSpecSaid : Prop := fnExactFindSpecRow.holds Try.pinned (OpenSpec.ofChange fnExactFindSpecSpec)

/-- ITS FALSE NEIGHBOUR: 'it returns false'. Refute it at one input. -/
def fnExactFindSpecWrong : ChangeSpec := { name := "fnExactFindSpec", fn := fun _ => fun
  | [d1, d2, d3] => { results := [.lit (.bool false)], args := [d1, d2, d3] }
  | _ => none }
def FnExactFindSpecWrongFalsely : Prop := fnExactFindSpecRow.holds Try.pinned (OpenSpec.ofChange fnExactFindSpecWrong)

/-- 'laws.FnExactCanFind': WHATEVER THE INPUT: true; the input reads as it did. -/
def fnExactCanFindSpec : ChangeSpec := { name := "fnExactCanFind", fn := fun _ => fun
  | [d1, d2, d3] => { results := [.lit (.bool true)], args := [d1, d2, d3] }
  | _ => none }
def fnExactCanFindRow : OpenClaim := { program := "ytkmclfhnhcphoaa", sum := "869933b6e209c645fcdeef4aa6f993dd3a029d17d9e0458f8ed0cfd71ed5db99", func := "loop.example/importhouse/laws.FnExactCanFind", spec := "fnExactCanFind", unfollowed := true, recurses := true, plainKeys := false, apart := false }
def FnExactCanFindSaid : Prop := fnExactCanFindRow.holds Try.pinned (OpenSpec.ofChange fnExactCanFindSpec)

/-- ITS FALSE NEIGHBOUR: 'it returns false'. Refute it at one input. -/
def fnExactCanFindWrong : ChangeSpec := { name := "fnExactCanFind", fn := fun _ => fun
  | [d1, d2, d3] => { results := [.lit (.bool false)], args := [d1, d2, d3] }
  | _ => none }
def FnExactCanFindWrongFalsely : Prop := fnExactCanFindRow.holds Try.pinned (OpenSpec.ofChange fnExactCanFindWrong)

/-- 'laws.FnExactHiddenFiles': WHATEVER THE INPUT: true; the input reads as it did. -/
def fnExactHiddenFilesSpec : ChangeSpec := { name := "fnExactHiddenFiles", fn := fun _ => fun
  | [d1, d2] => { results := [.lit (.bool true)], args := [d1, d2] }
  | _ => none }
def fnExactHiddenFilesRow : OpenClaim := { program := "ytkmclfhnhcphoaa", sum := "869933b6e209c645fcdeef4aa6f993dd3a029d17d9e0458f8ed0cfd71ed5db99", func := "loop.example/importhouse/laws.FnExactHiddenFiles", spec := "fnExactHiddenFiles", unfollowed := true, recurses := true, plainKeys := false, apart := false }
def FnExactHiddenFilesSaid : Prop := fnExactHiddenFilesRow.holds Try.pinned (OpenSpec.ofChange fnExactHiddenFilesSpec)

/-- ITS FALSE NEIGHBOUR: 'it returns false'. Refute it at one input. -/
def fnExactHiddenFilesWrong : ChangeSpec := { name := "fnExactHiddenFiles", fn := fun _ => fun
  | [d1, d2] => { results := [.lit (.bool false)], args := [d1, d2] }
  | _ => none }
def FnExactHiddenFilesWrongFalsely : Prop := fnExactHiddenFilesRow.holds Try.pinned (OpenSpec.ofChange fnExactHiddenFilesWrong)

/-- 'laws.FnExactWhoHides': WHATEVER THE INPUT: true; the input reads as it did. -/
def fnExactWhoHidesSpec : ChangeSpec := { name := "fnExactWhoHides", fn := fun _ => fun
  | [d1, d2, d3] => { results := [.lit (.bool true)], args := [d1, d2, d3] }
  | _ => none }
def fnExactWhoHidesRow : OpenClaim := { program := "ytkmclfhnhcphoaa", sum := "869933b6e209c645fcdeef4aa6f993dd3a029d17d9e0458f8ed0cfd71ed5db99", func := "loop.example/importhouse/laws.FnExactWhoHides", spec := "fnExactWhoHides", unfollowed := true, recurses := true, plainKeys := false, apart := false }
def FnExactWhoHidesSaid : Prop := fnExactWhoHidesRow.holds Try.pinned (OpenSpec.ofChange fnExactWhoHidesSpec)

/-- ITS FALSE NEIGHBOUR: 'it returns false'. Refute it at one input. -/
def fnExactWhoHidesWrong : ChangeSpec := { name := "fnExactWhoHides", fn := fun _ => fun
  | [d1, d2, d3] => { results := [.lit (.bool false)], args := [d1, d2, d3] }
  | _ => none }
def FnExactWhoHidesWrongFalsely : Prop := fnExactWhoHidesRow.holds Try.pinned (OpenSpec.ofChange fnExactWhoHidesWrong)

/-- 'laws.FnExactIsPackage': WHATEVER THE INPUT: true; the input reads as it did. -/
def fnExactIsPackageSpec : ChangeSpec := { name := "fnExactIsPackage", fn := fun _ => fun
  | [d1, d2, d3] => { results := [.lit (.bool true)], args := [d1, d2, d3] }
  | _ => none }
def fnExactIsPackageRow : OpenClaim := { program := "ytkmclfhnhcphoaa", sum := "869933b6e209c645fcdeef4aa6f993dd3a029d17d9e0458f8ed0cfd71ed5db99", func := "loop.example/importhouse/laws.FnExactIsPackage", spec := "fnExactIsPackage", unfollowed := true, recurses := true, plainKeys := false, apart := false }
def FnExactIsPackageSaid : Prop := fnExactIsPackageRow.holds Try.pinned (OpenSpec.ofChange fnExactIsPackageSpec)

/-- ITS FALSE NEIGHBOUR: 'it returns false'. Refute it at one input. -/
def fnExactIsPackageWrong : ChangeSpec := { name := "fnExactIsPackage", fn := fun _ => fun
  | [d1, d2, d3] => { results := [.lit (.bool false)], args := [d1, d2, d3] }
  | _ => none }
def FnExactIsPackageWrongFalsely : Prop := fnExactIsPackageRow.holds Try.pinned (OpenSpec.ofChange fnExactIsPackageWrong)

/- THE SECOND FORM. 'bulk': how many values and letters a reading holds, each counted each time it is reached (what is shared counts as often as it is met; a slice's spare places count too). A statement '..UptoSaid' is the law's where the arguments, and the package variables that the reading takes, are together of bulk at most 1048576: NARROWER than '..Said'. Prove '..Said' where nothing that the law and all that it calls make is longer than what came in: it says more and counts as full. Else prove '..UptoSaid'. A law counts once. -/
mutual
def uptoBulk {H : Type} : DataW H → Nat
  | .lit (.string bytes) => bytes.length + 1
  | .lit _ => 1
  | .nil => 1
  | .ptr d => uptoBulk d + 1
  | .slice elems spare => uptoBulkAll elems + uptoBulkAll spare + 1
  | .agg parts => uptoBulkAll parts + 1
  | .iface _ d => uptoBulk d + 1
  | .map entries => uptoBulkEntries entries + 1
  | .held _ => 1
def uptoBulkAll {H : Type} : List (DataW H) → Nat
  | [] => 0
  | d :: r => uptoBulk d + uptoBulkAll r
def uptoBulkEntries {H : Type} : List (Lit × DataW H) → Nat
  | [] => 0
  | x :: r => uptoBulkEntry x + uptoBulkEntries r
def uptoBulkEntry {H : Type} : Lit × DataW H → Nat
  | (.string bytes, d) => bytes.length + uptoBulk d + 1
  | (_, d) => uptoBulk d + 1
 end
def uptoSmall : (H : Type) → List (DataW H) → Bool := fun _ ds => decide (uptoBulkAll ds ≤ 1048576)
def OpenSpec.upto (s : _root_.Go.ChangeSpec) : _root_.Go.OpenSpec := { _root_.Go.OpenSpec.ofChange s with cond := some uptoSmall }

/-- 'laws.FnExactAddFile', WHERE WHAT IT READS IS OF BULK AT MOST 1048576: true; the input reads as it did. -/
def fnExactAddFileUptoRow : OpenClaim := { program := "ytkmclfhnhcphoaa", sum := "869933b6e209c645fcdeef4aa6f993dd3a029d17d9e0458f8ed0cfd71ed5db99", func := "loop.example/importhouse/laws.FnExactAddFile", spec := "fnExactAddFile", plainKeys := false, apart := false, narrowed := true }
def FnExactAddFileUptoSaid : Prop := fnExactAddFileUptoRow.holds Try.pinned (OpenSpec.upto fnExactAddFileSpec)

/-- 'laws.FnExactRemoveFile', WHERE WHAT IT READS IS OF BULK AT MOST 1048576: true; the input reads as it did. -/
def fnExactRemoveFileUptoRow : OpenClaim := { program := "ytkmclfhnhcphoaa", sum := "869933b6e209c645fcdeef4aa6f993dd3a029d17d9e0458f8ed0cfd71ed5db99", func := "loop.example/importhouse/laws.FnExactRemoveFile", spec := "fnExactRemoveFile", plainKeys := false, apart := false, narrowed := true }
def FnExactRemoveFileUptoSaid : Prop := fnExactRemoveFileUptoRow.holds Try.pinned (OpenSpec.upto fnExactRemoveFileSpec)

/-- 'laws.FnExactEditFile', WHERE WHAT IT READS IS OF BULK AT MOST 1048576: true; the input reads as it did. -/
def fnExactEditFileUptoRow : OpenClaim := { program := "ytkmclfhnhcphoaa", sum := "869933b6e209c645fcdeef4aa6f993dd3a029d17d9e0458f8ed0cfd71ed5db99", func := "loop.example/importhouse/laws.FnExactEditFile", spec := "fnExactEditFile", plainKeys := false, apart := false, narrowed := true }
def FnExactEditFileUptoSaid : Prop := fnExactEditFileUptoRow.holds Try.pinned (OpenSpec.upto fnExactEditFileSpec)

/-- 'laws.FnExactFindIn', WHERE WHAT IT READS IS OF BULK AT MOST 1048576: true; the input reads as it did. -/
def fnExactFindInUptoRow : OpenClaim := { program := "ytkmclfhnhcphoaa", sum := "869933b6e209c645fcdeef4aa6f993dd3a029d17d9e0458f8ed0cfd71ed5db99", func := "loop.example/importhouse/laws.FnExactFindIn", spec := "fnExactFindIn", unfollowed := true, recurses := true, plainKeys := false, apart := false, narrowed := true }
def FnExactFindInUptoSaid : Prop := fnExactFindInUptoRow.holds Try.pinned (OpenSpec.upto fnExactFindInSpec)

/-- 'laws.FnExactFindSpec', WHERE WHAT IT READS IS OF BULK AT MOST 1048576: true; the input reads as it did. -/
def fnExactFindSpecUptoRow : OpenClaim := { program := "ytkmclfhnhcphoaa", sum := "869933b6e209c645fcdeef4aa6f993dd3a029d17d9e0458f8ed0cfd71ed5db99", func := "loop.example/importhouse/laws.FnExactFindSpec", spec := "fnExactFindSpec", unfollowed := true, recurses := true, plainKeys := false, apart := false, narrowed := true }
def FnExactFindSpecUptoSaid : Prop := fnExactFindSpecUptoRow.holds Try.pinned (OpenSpec.upto fnExactFindSpecSpec)

/-- 'laws.FnExactCanFind', WHERE WHAT IT READS IS OF BULK AT MOST 1048576: true; the input reads as it did. -/
def fnExactCanFindUptoRow : OpenClaim := { program := "ytkmclfhnhcphoaa", sum := "869933b6e209c645fcdeef4aa6f993dd3a029d17d9e0458f8ed0cfd71ed5db99", func := "loop.example/importhouse/laws.FnExactCanFind", spec := "fnExactCanFind", unfollowed := true, recurses := true, plainKeys := false, apart := false, narrowed := true }
def FnExactCanFindUptoSaid : Prop := fnExactCanFindUptoRow.holds Try.pinned (OpenSpec.upto fnExactCanFindSpec)

/-- 'laws.FnExactHiddenFiles', WHERE WHAT IT READS IS OF BULK AT MOST 1048576: true; the input reads as it did. -/
def fnExactHiddenFilesUptoRow : OpenClaim := { program := "ytkmclfhnhcphoaa", sum := "869933b6e209c645fcdeef4aa6f993dd3a029d17d9e0458f8ed0cfd71ed5db99", func := "loop.example/importhouse/laws.FnExactHiddenFiles", spec := "fnExactHiddenFiles", unfollowed := true, recurses := true, plainKeys := false, apart := false, narrowed := true }
def FnExactHiddenFilesUptoSaid : Prop := fnExactHiddenFilesUptoRow.holds Try.pinned (OpenSpec.upto fnExactHiddenFilesSpec)

/-- 'laws.FnExactWhoHides', WHERE WHAT IT READS IS OF BULK AT MOST 1048576: true; the input reads as it did. -/
def fnExactWhoHidesUptoRow : OpenClaim := { program := "ytkmclfhnhcphoaa", sum := "869933b6e209c645fcdeef4aa6f993dd3a029d17d9e0458f8ed0cfd71ed5db99", func := "loop.example/importhouse/laws.FnExactWhoHides", spec := "fnExactWhoHides", unfollowed := true, recurses := true, plainKeys := false, apart := false, narrowed := true }
def FnExactWhoHidesUptoSaid : Prop := fnExactWhoHidesUptoRow.holds Try.pinned (OpenSpec.upto fnExactWhoHidesSpec)

/-- 'laws.FnExactIsPackage', WHERE WHAT IT READS IS OF BULK AT MOST 1048576: true; the input reads as it did. -/
def fnExactIsPackageUptoRow : OpenClaim := { program := "ytkmclfhnhcphoaa", sum := "869933b6e209c645fcdeef4aa6f993dd3a029d17d9e0458f8ed0cfd71ed5db99", func := "loop.example/importhouse/laws.FnExactIsPackage", spec := "fnExactIsPackage", unfollowed := true, recurses := true, plainKeys := false, apart := false, narrowed := true }
def FnExactIsPackageUptoSaid : Prop := fnExactIsPackageUptoRow.holds Try.pinned (OpenSpec.upto fnExactIsPackageSpec)

end Rows
end Go.Proofs.Ytkmclfhnhcphoaa
