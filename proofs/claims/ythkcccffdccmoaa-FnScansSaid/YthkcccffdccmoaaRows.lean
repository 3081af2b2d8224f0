/-
  No cell of these rows narrows 'for every input' (looked for: loops, veiled, ifaces, maps, wideKeys, modest, calm, conditions, laid).
  DERIVED. THE GIVEN ROWS OF THIS SEAT. 5 by the template 'for every input the law returns true; each argument reads behind the call as it read before'; 0 by the template 'total and deterministic' (their statements: YthkcccffdccmoaaTotals.lean).
  GIVEN WITH THE SEED: the statements are not yours to turn. If you find one false, say at which input.
  Laid BY PROGRAM, IN A SANDBOX (cutbox-rows.mjs): the forced cells as the released guide's own fill.sh prints them over the translation 09fdc828a2346a94… (all of the seat's roots in one cut). By AI agents, Wed Nov 11 2026. No macro, syntax, notation, axiom, sorry.
-/
import Derived.Test.YthkcccffdccmoaaChecked
import GoSem.Claim
import GoSem.ClaimJoined
import GoSem.ClaimMapViews
import Derived.JoinedTies
import Derived.KernelRfl
namespace Go.Proofs.Ythkcccffdccmoaa
/- THE CELL 'sum', in the pinned program and in every row, IS THE sha256 OF THE DUMP (.gsa) THAT YthkcccffdccmoaaProg.lean LOADS. Nothing in Lean hashes anything: it is a label: what it is worth is what the hold of that sum in a sandbox is worth. -/
noncomputable def Try.pinned : Pinned := { name := "ythkcccffdccmoaa", sum := "09fdc828a2346a9473ff675984d2d3405f8a70dd6d4a83e82fd4c3ccf751f323", checked := Try.checked }
namespace Rows
def none {H : Type} : Left H := { results := [], args := [] }

/-- 'laws.FnScans': WHATEVER THE INPUT: true; the input reads as it did. -/
def fnScansSpec : ChangeSpec := { name := "fnScans", fn := fun _ => fun
  | [d] => { results := [.lit (.bool true)], args := [d] }
  | _ => none }
def fnScansRow : OpenClaim := { program := "ythkcccffdccmoaa", sum := "09fdc828a2346a9473ff675984d2d3405f8a70dd6d4a83e82fd4c3ccf751f323", func := "loop.example/g01613/laws.FnScans", spec := "fnScans", apart := false }
def FnScansSaid : Prop := fnScansRow.holds Try.pinned (OpenSpec.ofChange fnScansSpec)

/-- ITS FALSE NEIGHBOUR: 'it returns false'. Refute it at one input. -/
def fnScansWrong : ChangeSpec := { name := "fnScans", fn := fun _ => fun
  | [d] => { results := [.lit (.bool false)], args := [d] }
  | _ => none }
def FnScansWrongFalsely : Prop := fnScansRow.holds Try.pinned (OpenSpec.ofChange fnScansWrong)

/-- 'laws.FnExactScanOrder': WHATEVER THE INPUT: true; the input reads as it did. -/
def fnExactScanOrderSpec : ChangeSpec := { name := "fnExactScanOrder", fn := fun _ => fun
  | [d] => { results := [.lit (.bool true)], args := [d] }
  | _ => none }
def fnExactScanOrderRow : OpenClaim := { program := "ythkcccffdccmoaa", sum := "09fdc828a2346a9473ff675984d2d3405f8a70dd6d4a83e82fd4c3ccf751f323", func := "loop.example/g01613/laws.FnExactScanOrder", spec := "fnExactScanOrder", apart := false }
def FnExactScanOrderSaid : Prop := fnExactScanOrderRow.holds Try.pinned (OpenSpec.ofChange fnExactScanOrderSpec)

/-- ITS FALSE NEIGHBOUR: 'it returns false'. Refute it at one input. -/
def fnExactScanOrderWrong : ChangeSpec := { name := "fnExactScanOrder", fn := fun _ => fun
  | [d] => { results := [.lit (.bool false)], args := [d] }
  | _ => none }
def FnExactScanOrderWrongFalsely : Prop := fnExactScanOrderRow.holds Try.pinned (OpenSpec.ofChange fnExactScanOrderWrong)

/-- 'laws.FnExactScanned': WHATEVER THE INPUT: true; the input reads as it did. -/
def fnExactScannedSpec : ChangeSpec := { name := "fnExactScanned", fn := fun _ => fun
  | [d] => { results := [.lit (.bool true)], args := [d] }
  | _ => none }
def fnExactScannedRow : OpenClaim := { program := "ythkcccffdccmoaa", sum := "09fdc828a2346a9473ff675984d2d3405f8a70dd6d4a83e82fd4c3ccf751f323", func := "loop.example/g01613/laws.FnExactScanned", spec := "fnExactScanned", apart := false }
def FnExactScannedSaid : Prop := fnExactScannedRow.holds Try.pinned (OpenSpec.ofChange fnExactScannedSpec)

/-- ITS FALSE NEIGHBOUR: 'it returns false'. Refute it at one input. -/
def fnExactScannedWrong : ChangeSpec := { name := "fnExactScanned", fn := fun _ => fun
  | [d] => { results := [.lit (.bool false)], args := [d] }
  | _ => none }
def FnExactScannedWrongFalsely : Prop := fnExactScannedRow.holds Try.pinned (OpenSpec.ofChange fnExactScannedWrong)

/-- 'laws.FnExactPlaced': WHATEVER THE INPUT: true; the input reads as it did. -/
def fnExactPlacedSpec : ChangeSpec := { name := "fnExactPlaced", fn := fun _ => fun
  | [d] => { results := [.lit (.bool true)], args := [d] }
  | _ => none }
def fnExactPlacedRow : OpenClaim := { program := "ythkcccffdccmoaa", sum := "09fdc828a2346a9473ff675984d2d3405f8a70dd6d4a83e82fd4c3ccf751f323", func := "loop.example/g01613/laws.FnExactPlaced", spec := "fnExactPlaced", apart := false }
def FnExactPlacedSaid : Prop := fnExactPlacedRow.holds Try.pinned (OpenSpec.ofChange fnExactPlacedSpec)

/-- ITS FALSE NEIGHBOUR: 'it returns false'. Refute it at one input. -/
def fnExactPlacedWrong : ChangeSpec := { name := "fnExactPlaced", fn := fun _ => fun
  | [d] => { results := [.lit (.bool false)], args := [d] }
  | _ => none }
def FnExactPlacedWrongFalsely : Prop := fnExactPlacedRow.holds Try.pinned (OpenSpec.ofChange fnExactPlacedWrong)

/-- 'laws.FnExactSizeOk': WHATEVER THE INPUT: true; the input reads as it did. -/
def fnExactSizeOkSpec : ChangeSpec := { name := "fnExactSizeOk", fn := fun _ => fun
  | [d] => { results := [.lit (.bool true)], args := [d] }
  | _ => none }
def fnExactSizeOkRow : OpenClaim := { program := "ythkcccffdccmoaa", sum := "09fdc828a2346a9473ff675984d2d3405f8a70dd6d4a83e82fd4c3ccf751f323", func := "loop.example/g01613/laws.FnExactSizeOk", spec := "fnExactSizeOk", apart := false }
def FnExactSizeOkSaid : Prop := fnExactSizeOkRow.holds Try.pinned (OpenSpec.ofChange fnExactSizeOkSpec)

/-- ITS FALSE NEIGHBOUR: 'it returns false'. Refute it at one input. -/
def fnExactSizeOkWrong : ChangeSpec := { name := "fnExactSizeOk", fn := fun _ => fun
  | [d] => { results := [.lit (.bool false)], args := [d] }
  | _ => none }
def FnExactSizeOkWrongFalsely : Prop := fnExactSizeOkRow.holds Try.pinned (OpenSpec.ofChange fnExactSizeOkWrong)

/- THE SECOND FORM. 'bulk': how many values and letters a reading holds, each counted each time it is reached (what is shared counts as often as it is met; a slice's spare places count too). A statement '..UptoSaid' is the law's where the arguments, and the package variables that the reading takes, are together of bulk at most 1048576: NARROWER than '..Said'. Prove '..Said' where nothing that the law and all that it calls make is longer than what came in: it says more and counts as full. Else prove '..UptoSaid'. A law counts once. -/
mutual
def uptoBulk {H : Type} : DataW H → Nat
  | .lit (.string bytes) => bytes.length + 1
  | .lit _ => 1
  | .nil => 1
  | .ptr d => uptoBulk d + 1
  | .slice elems spare => uptoBulkAll elems + uptoBulkAll spare + 1
  | .agg parts => uptoBulkAll parts + 1
  | .iface _ d => uptoBulk d + 1
  | .map entries => uptoBulkEntries entries + 1
  | .held _ => 1
def uptoBulkAll {H : Type} : List (DataW H) → Nat
  | [] => 0
  | d :: r => uptoBulk d + uptoBulkAll r
def uptoBulkEntries {H : Type} : List (Lit × DataW H) → Nat
  | [] => 0
  | x :: r => uptoBulkEntry x + uptoBulkEntries r
def uptoBulkEntry {H : Type} : Lit × DataW H → Nat
  | (.string bytes, d) => bytes.length + uptoBulk d + 1
  | (_, d) => uptoBulk d + 1
 end
def uptoSmall : (H : Type) → List (DataW H) → Bool := fun _ ds => decide (uptoBulkAll ds ≤ 1048576)
def OpenSpec.upto (s : _root_.Go.ChangeSpec) : _root_.Go.OpenSpec := { _root_.Go.OpenSpec.ofChange s with cond := some uptoSmall }

/-- 'laws.FnScans', WHERE WHAT IT READS IS OF BULK AT MOST 1048576: true; the input reads as it did. -/
def fnScansUptoRow : OpenClaim := { program := "ythkcccffdccmoaa", sum := "09fdc828a2346a9473ff675984d2d3405f8a70dd6d4a83e82fd4c3ccf751f323", func := "loop.example/g01613/laws.FnScans", spec := "fnScans", apart := false, narrowed := true }
def FnScansUptoSaid : Prop := fnScansUptoRow.holds Try.pinned (OpenSpec.upto fnScansSpec)

/-- 'laws.FnExactScanOrder', WHERE WHAT IT READS IS OF BULK AT MOST 1048576: true; the input reads as it did. -/
def fnExactScanOrderUptoRow : OpenClaim := { program := "ythkcccffdccmoaa", sum := "09fdc828a2346a9473ff675984d2d3405f8a70dd6d4a83e82fd4c3ccf751f323", func := "loop.example/g01613/laws.FnExactScanOrder", spec := "fnExactScanOrder", apart := false, narrowed := true }
def FnExactScanOrderUptoSaid : Prop := fnExactScanOrderUptoRow.holds Try.pinned (OpenSpec.upto fnExactScanOrderSpec)

/-- 'laws.FnExactScanned', WHERE WHAT IT READS IS OF BULK AT MOST 1048576: true; the input reads as it did. -/
def fnExactScannedUptoRow : OpenClaim := { program := "ythkcccffdccmoaa", sum := "09fdc828a2346a9473ff675984d2d3405f8a70dd6d4a83e82fd4c3ccf751f323", func := "loop.example/g01613/laws.FnExactScanned", spec := "fnExactScanned", apart := false, narrowed := true }
def FnExactScannedUptoSaid : Prop := fnExactScannedUptoRow.holds Try.pinned (OpenSpec.upto fnExactScannedSpec)

/-- 'laws.FnExactPlaced', WHERE WHAT IT READS IS OF BULK AT MOST 1048576: true; the input reads as it did. -/
def fnExactPlacedUptoRow : OpenClaim := { program := "ythkcccffdccmoaa", sum := "09fdc828a2346a9473ff675984d2d3405f8a70dd6d4a83e82fd4c3ccf751f323", func := "loop.example/g01613/laws.FnExactPlaced", spec := "fnExactPlaced", apart := false, narrowed := true }
def FnExactPlacedUptoSaid : Prop := fnExactPlacedUptoRow.holds Try.pinned (OpenSpec.upto fnExactPlacedSpec)

/-- 'laws.FnExactSizeOk', WHERE WHAT IT READS IS OF BULK AT MOST 1048576: true; the input reads as it did. -/
def fnExactSizeOkUptoRow : OpenClaim := { program := "ythkcccffdccmoaa", sum := "09fdc828a2346a9473ff675984d2d3405f8a70dd6d4a83e82fd4c3ccf751f323", func := "loop.example/g01613/laws.FnExactSizeOk", spec := "fnExactSizeOk", apart := false, narrowed := true }
def FnExactSizeOkUptoSaid : Prop := fnExactSizeOkUptoRow.holds Try.pinned (OpenSpec.upto fnExactSizeOkSpec)

end Rows
end Go.Proofs.Ythkcccffdccmoaa
