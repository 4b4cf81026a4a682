/-
  No cell of these rows narrows 'for every input' (looked for: loops, veiled, ifaces, maps, wideKeys, modest, calm, conditions, laid).
  DERIVED. THE GIVEN ROWS OF THIS SEAT. 5 by the template 'for every input the law returns true; each argument reads behind the call as it read before'; 0 by the template 'total and deterministic' (their statements: YtfelbhpgifgkcaaGreatTotals.lean).
  GIVEN WITH THE SEED: the statements are not yours to turn. If you find one false, say at which input.
  Laid BY PROGRAM, IN A SANDBOX (cutbox-rows.mjs): the forced cells as the released guide's own fill.sh prints them over the translation c32801c2569235ae… (all of the seat's roots in one cut). By AI agents, Wed Nov 11 2026. No macro, syntax, notation, axiom, sorry.
-/
import Derived.Test.YtfelbhpgifgkcaaGreatChecked
import GoSem.Claim
import GoSem.ClaimJoined
import GoSem.ClaimMapViews
import Derived.JoinedTies
import Derived.KernelRfl
namespace Go.Proofs.YtfelbhpgifgkcaaGreat
/- THE CELL 'sum', in the pinned program and in every row, IS THE sha256 OF THE DUMP (.gsa) THAT YtfelbhpgifgkcaaGreatProg.lean LOADS. Nothing in Lean hashes anything: it is a label: what it is worth is what the hold of that sum in a sandbox is worth. -/
noncomputable def Tryz.pinned : Pinned := { name := "ytfelbhpgifgkcaagreat", sum := "c32801c2569235aec3f1f7fbd277c47107b8309e1f6c0a2726adf33dfdfa0536", checked := Tryz.checked }
namespace Rows
def none {H : Type} : Left H := { results := [], args := [] }

/-- 'laws.FnEditFile': WHATEVER THE INPUT: true; the input reads as it did. -/
def fnEditFileSpec : ChangeSpec := { name := "fnEditFile", fn := fun _ => fun
  | [d] => { results := [.lit (.bool true)], args := [d] }
  | _ => none }
def fnEditFileRow : OpenClaim := { program := "ytfelbhpgifgkcaagreat", sum := "c32801c2569235aec3f1f7fbd277c47107b8309e1f6c0a2726adf33dfdfa0536", func := "loop.example/importhouse/laws.FnEditFile", spec := "fnEditFile", unfollowed := true, recurses := true, plainKeys := false, apart := false }
def FnEditFileSaid : Prop := fnEditFileRow.holds Tryz.pinned (OpenSpec.ofChange fnEditFileSpec)

/-- ITS FALSE NEIGHBOUR: 'it returns false'. Refute it at one input. -/
def fnEditFileWrong : ChangeSpec := { name := "fnEditFile", fn := fun _ => fun
  | [d] => { results := [.lit (.bool false)], args := [d] }
  | _ => none }
def FnEditFileWrongFalsely : Prop := fnEditFileRow.holds Tryz.pinned (OpenSpec.ofChange fnEditFileWrong)

/-- 'laws.FnHiddenFilesGone': WHATEVER THE INPUT: true; the input reads as it did. -/
def fnHiddenFilesGoneSpec : ChangeSpec := { name := "fnHiddenFilesGone", fn := fun _ => fun
  | [d] => { results := [.lit (.bool true)], args := [d] }
  | _ => none }
def fnHiddenFilesGoneRow : OpenClaim := { program := "ytfelbhpgifgkcaagreat", sum := "c32801c2569235aec3f1f7fbd277c47107b8309e1f6c0a2726adf33dfdfa0536", func := "loop.example/importhouse/laws.FnHiddenFilesGone", spec := "fnHiddenFilesGone", unfollowed := true, recurses := true, plainKeys := false, apart := false }
def FnHiddenFilesGoneSaid : Prop := fnHiddenFilesGoneRow.holds Tryz.pinned (OpenSpec.ofChange fnHiddenFilesGoneSpec)

/-- ITS FALSE NEIGHBOUR: 'it returns false'. Refute it at one input. -/
def fnHiddenFilesGoneWrong : ChangeSpec := { name := "fnHiddenFilesGone", fn := fun _ => fun
  | [d] => { results := [.lit (.bool false)], args := [d] }
  | _ => none }
def FnHiddenFilesGoneWrongFalsely : Prop := fnHiddenFilesGoneRow.holds Tryz.pinned (OpenSpec.ofChange fnHiddenFilesGoneWrong)

/-- 'laws.FnSameFinds': WHATEVER THE INPUT: true; the input reads as it did. -/
def fnSameFindsSpec : ChangeSpec := { name := "fnSameFinds", fn := fun _ => fun
  | [d] => { results := [.lit (.bool true)], args := [d] }
  | _ => none }
def fnSameFindsRow : OpenClaim := { program := "ytfelbhpgifgkcaagreat", sum := "c32801c2569235aec3f1f7fbd277c47107b8309e1f6c0a2726adf33dfdfa0536", func := "loop.example/importhouse/laws.FnSameFinds", spec := "fnSameFinds", unfollowed := true, recurses := true, plainKeys := false, apart := false }
def FnSameFindsSaid : Prop := fnSameFindsRow.holds Tryz.pinned (OpenSpec.ofChange fnSameFindsSpec)

/-- ITS FALSE NEIGHBOUR: 'it returns false'. Refute it at one input. -/
def fnSameFindsWrong : ChangeSpec := { name := "fnSameFinds", fn := fun _ => fun
  | [d] => { results := [.lit (.bool false)], args := [d] }
  | _ => none }
def FnSameFindsWrongFalsely : Prop := fnSameFindsRow.holds Tryz.pinned (OpenSpec.ofChange fnSameFindsWrong)

/-- 'laws.FnExactSameFinds': WHATEVER THE INPUT: true; the input reads as it did. -/
def fnExactSameFindsSpec : ChangeSpec := { name := "fnExactSameFinds", fn := fun _ => fun
  | [d1, d2, d3] => { results := [.lit (.bool true)], args := [d1, d2, d3] }
  | _ => none }
def fnExactSameFindsRow : OpenClaim := { program := "ytfelbhpgifgkcaagreat", sum := "c32801c2569235aec3f1f7fbd277c47107b8309e1f6c0a2726adf33dfdfa0536", func := "loop.example/importhouse/laws.FnExactSameFinds", spec := "fnExactSameFinds", unfollowed := true, recurses := true, plainKeys := false, apart := false }
def FnExactSameFindsSaid : Prop := fnExactSameFindsRow.holds Tryz.pinned (OpenSpec.ofChange fnExactSameFindsSpec)

/-- ITS FALSE NEIGHBOUR: 'it returns false'. Refute it at one input. -/
def fnExactSameFindsWrong : ChangeSpec := { name := "fnExactSameFinds", fn := fun _ => fun
  | [d1, d2, d3] => { results := [.lit (.bool false)], args := [d1, d2, d3] }
  | _ => none }
def FnExactSameFindsWrongFalsely : Prop := fnExactSameFindsRow.holds Tryz.pinned (OpenSpec.ofChange fnExactSameFindsWrong)

/-- 'laws.FnExactStaleDirs': WHATEVER THE INPUT: true; the input reads as it did. -/
def fnExactStaleDirsSpec : ChangeSpec := { name := "fnExactStaleDirs", fn := fun _ => fun
  | [d1, d2] => { results := [.lit (.bool true)], args := [d1, d2] }
  | _ => none }
def fnExactStaleDirsRow : OpenClaim := { program := "ytfelbhpgifgkcaagreat", sum := "c32801c2569235aec3f1f7fbd277c47107b8309e1f6c0a2726adf33dfdfa0536", func := "loop.example/importhouse/laws.FnExactStaleDirs", spec := "fnExactStaleDirs", recurses := true, plainKeys := false, apart := false }
def FnExactStaleDirsSaid : Prop := fnExactStaleDirsRow.holds Tryz.pinned (OpenSpec.ofChange fnExactStaleDirsSpec)

/-- ITS FALSE NEIGHBOUR: 'it returns false'. Refute it at one input. -/
def fnExactStaleDirsWrong : ChangeSpec := { name := "fnExactStaleDirs", fn := fun _ => fun
  | [d1, d2] => { results := [.lit (.bool false)], args := [d1, d2] }
  | _ => none }
def FnExactStaleDirsWrongFalsely : Prop := fnExactStaleDirsRow.holds Tryz.pinned (OpenSpec.ofChange fnExactStaleDirsWrong)

/- THE SECOND FORM. 'bulk': how many values and letters a reading holds, each counted each time it is reached (what is shared counts as often as it is met; a slice's spare places count too). A statement '..UptoSaid' is the law's where the arguments, and the package variables that the reading takes, are together of bulk at most 1048576: NARROWER than '..Said'. Prove '..Said' where nothing that the law and all that it calls make is longer than what came in: it says more and counts as full. Else prove '..UptoSaid'. A law counts once. -/
mutual
def uptoBulk {H : Type} : DataW H → Nat
  | .lit (.string bytes) => bytes.length + 1
  | .lit _ => 1
  | .nil => 1
  | .ptr d => uptoBulk d + 1
  | .slice elems spare => uptoBulkAll elems + uptoBulkAll spare + 1
  | .agg parts => uptoBulkAll parts + 1
  | .iface _ d => uptoBulk d + 1
  | .map entries => uptoBulkEntries entries + 1
  | .held _ => 1
def uptoBulkAll {H : Type} : List (DataW H) → Nat
  | [] => 0
  | d :: r => uptoBulk d + uptoBulkAll r
def uptoBulkEntries {H : Type} : List (Lit × DataW H) → Nat
  | [] => 0
  | x :: r => uptoBulkEntry x + uptoBulkEntries r
def uptoBulkEntry {H : Type} : Lit × DataW H → Nat
  | (.string bytes, d) => bytes.length + uptoBulk d + 1
  | (_, d) => uptoBulk d + 1
 end
def uptoSmall : (H : Type) → List (DataW H) → Bool := fun _ ds => decide (uptoBulkAll ds ≤ 1048576)
def OpenSpec.upto (s : _root_.Go.ChangeSpec) : _root_.Go.OpenSpec := { _root_.Go.OpenSpec.ofChange s with cond := some uptoSmall }

/-- 'laws.FnEditFile', WHERE WHAT IT READS IS OF BULK AT MOST 1048576: true; the input reads as it did. -/
def fnEditFileUptoRow : OpenClaim := { program := "ytfelbhpgifgkcaagreat", sum := "c32801c2569235aec3f1f7fbd277c47107b8309e1f6c0a2726adf33dfdfa0536", func := "loop.example/importhouse/laws.FnEditFile", spec := "fnEditFile", unfollowed := true, recurses := true, plainKeys := false, apart := false, narrowed := true }
def FnEditFileUptoSaid : Prop := fnEditFileUptoRow.holds Tryz.pinned (OpenSpec.upto fnEditFileSpec)

/-- 'laws.FnHiddenFilesGone', WHERE WHAT IT READS IS OF BULK AT MOST 1048576: true; the input reads as it did. -/
def fnHiddenFilesGoneUptoRow : OpenClaim := { program := "ytfelbhpgifgkcaagreat", sum := "c32801c2569235aec3f1f7fbd277c47107b8309e1f6c0a2726adf33dfdfa0536", func := "loop.example/importhouse/laws.FnHiddenFilesGone", spec := "fnHiddenFilesGone", unfollowed := true, recurses := true, plainKeys := false, apart := false, narrowed := true }
def FnHiddenFilesGoneUptoSaid : Prop := fnHiddenFilesGoneUptoRow.holds Tryz.pinned (OpenSpec.upto fnHiddenFilesGoneSpec)

/-- 'laws.FnSameFinds', WHERE WHAT IT READS IS OF BULK AT MOST 1048576: true; the input reads as it did. -/
def fnSameFindsUptoRow : OpenClaim := { program := "ytfelbhpgifgkcaagreat", sum := "c32801c2569235aec3f1f7fbd277c47107b8309e1f6c0a2726adf33dfdfa0536", func := "loop.example/importhouse/laws.FnSameFinds", spec := "fnSameFinds", unfollowed := true, recurses := true, plainKeys := false, apart := false, narrowed := true }
def FnSameFindsUptoSaid : Prop := fnSameFindsUptoRow.holds Tryz.pinned (OpenSpec.upto fnSameFindsSpec)

/-- 'laws.FnExactSameFinds', WHERE WHAT IT READS IS OF BULK AT MOST 1048576: true; the input reads as it did. -/
def fnExactSameFindsUptoRow : OpenClaim := { program := "ytfelbhpgifgkcaagreat", sum := "c32801c2569235aec3f1f7fbd277c47107b8309e1f6c0a2726adf33dfdfa0536", func := "loop.example/importhouse/laws.FnExactSameFinds", spec := "fnExactSameFinds", unfollowed := true, recurses := true, plainKeys := false, apart := false, narrowed := true }
def FnExactSameFindsUptoSaid : Prop := fnExactSameFindsUptoRow.holds Tryz.pinned (OpenSpec.upto fnExactSameFindsSpec)

/-- 'laws.FnExactStaleDirs', WHERE WHAT IT READS IS OF BULK AT MOST 1048576: true; the input reads as it did. -/
def fnExactStaleDirsUptoRow : OpenClaim := { program := "ytfelbhpgifgkcaagreat", sum := "c32801c2569235aec3f1f7fbd277c47107b8309e1f6c0a2726adf33dfdfa0536", func := "loop.example/importhouse/laws.FnExactStaleDirs", spec := "fnExactStaleDirs", recurses := true, plainKeys := false, apart := false, narrowed := true }
def FnExactStaleDirsUptoSaid : Prop := fnExactStaleDirsUptoRow.holds Tryz.pinned (OpenSpec.upto fnExactStaleDirsSpec)

end Rows
end Go.Proofs.YtfelbhpgifgkcaaGreat
