/-
  No cell of these rows narrows 'for every input' (looked for: loops, veiled, ifaces, maps, wideKeys, modest, calm, conditions, laid).
  DERIVED. THE GIVEN ROWS OF THIS SEAT. 7 by the template 'for every input the law returns true; each argument reads behind the call as it read before'; 0 by the template 'total and deterministic' (their statements: YtgihpckibdnghaaTotals.lean).
  GIVEN WITH THE SEED: the statements are not yours to turn. If you find one false, say at which input.
  Laid BY PROGRAM, IN A SANDBOX (cutbox-rows.mjs): the forced cells as the released guide's own fill.sh prints them over the translation 42f29bf03d73011f… (all of the seat's roots in one cut). By AI agents, Wed Nov 11 2026. No macro, syntax, notation, axiom, sorry.
-/
import Derived.Test.YtgihpckibdnghaaChecked
import GoSem.Claim
import GoSem.ClaimJoined
import GoSem.ClaimMapViews
import Derived.JoinedTies
import Derived.KernelRfl
namespace Go.Proofs.Ytgihpckibdnghaa
/- THE CELL 'sum', in the pinned program and in every row, IS THE sha256 OF THE DUMP (.gsa) THAT YtgihpckibdnghaaProg.lean LOADS. Nothing in Lean hashes anything: it is a label: what it is worth is what the hold of that sum in a sandbox is worth. -/
noncomputable def Try.pinned : Pinned := { name := "ytgihpckibdnghaa", sum := "42f29bf03d73011f18b8a271342dba6a3bc8ea677f877c1cf38d8c1a8a1a4693", checked := Try.checked }
namespace Rows
def none {H : Type} : Left H := { results := [], args := [] }

/-- 'laws.FnRuns': WHATEVER THE INPUT: true; the input reads as it did. -/
def fnRunsSpec : ChangeSpec := { name := "fnRuns", fn := fun _ => fun
  | [d] => { results := [.lit (.bool true)], args := [d] }
  | _ => none }
def fnRunsRow : OpenClaim := { program := "ytgihpckibdnghaa", sum := "42f29bf03d73011f18b8a271342dba6a3bc8ea677f877c1cf38d8c1a8a1a4693", func := "loop.example/g01613/laws.FnRuns", spec := "fnRuns", apart := false }
def FnRunsSaid : Prop := fnRunsRow.holds Try.pinned (OpenSpec.ofChange fnRunsSpec)

/-- ITS FALSE NEIGHBOUR: 'it returns false'. Refute it at one input. -/
def fnRunsWrong : ChangeSpec := { name := "fnRuns", fn := fun _ => fun
  | [d] => { results := [.lit (.bool false)], args := [d] }
  | _ => none }
def FnRunsWrongFalsely : Prop := fnRunsRow.holds Try.pinned (OpenSpec.ofChange fnRunsWrong)

/-- 'laws.FnExactPairsOf': WHATEVER THE INPUT: true; the input reads as it did. -/
def fnExactPairsOfSpec : ChangeSpec := { name := "fnExactPairsOf", fn := fun _ => fun
  | [d] => { results := [.lit (.bool true)], args := [d] }
  | _ => none }
def fnExactPairsOfRow : OpenClaim := { program := "ytgihpckibdnghaa", sum := "42f29bf03d73011f18b8a271342dba6a3bc8ea677f877c1cf38d8c1a8a1a4693", func := "loop.example/g01613/laws.FnExactPairsOf", spec := "fnExactPairsOf", apart := false }
def FnExactPairsOfSaid : Prop := fnExactPairsOfRow.holds Try.pinned (OpenSpec.ofChange fnExactPairsOfSpec)

/-- ITS FALSE NEIGHBOUR: 'it returns false'. Refute it at one input. -/
def fnExactPairsOfWrong : ChangeSpec := { name := "fnExactPairsOf", fn := fun _ => fun
  | [d] => { results := [.lit (.bool false)], args := [d] }
  | _ => none }
def FnExactPairsOfWrongFalsely : Prop := fnExactPairsOfRow.holds Try.pinned (OpenSpec.ofChange fnExactPairsOfWrong)

/-- 'laws.FnExactLevelsFrom': WHATEVER THE INPUT: true; the input reads as it did. -/
def fnExactLevelsFromSpec : ChangeSpec := { name := "fnExactLevelsFrom", fn := fun _ => fun
  | [d1, d2] => { results := [.lit (.bool true)], args := [d1, d2] }
  | _ => none }
def fnExactLevelsFromRow : OpenClaim := { program := "ytgihpckibdnghaa", sum := "42f29bf03d73011f18b8a271342dba6a3bc8ea677f877c1cf38d8c1a8a1a4693", func := "loop.example/g01613/laws.FnExactLevelsFrom", spec := "fnExactLevelsFrom", apart := false }
def FnExactLevelsFromSaid : Prop := fnExactLevelsFromRow.holds Try.pinned (OpenSpec.ofChange fnExactLevelsFromSpec)

/-- ITS FALSE NEIGHBOUR: 'it returns false'. Refute it at one input. -/
def fnExactLevelsFromWrong : ChangeSpec := { name := "fnExactLevelsFrom", fn := fun _ => fun
  | [d1, d2] => { results := [.lit (.bool false)], args := [d1, d2] }
  | _ => none }
def FnExactLevelsFromWrongFalsely : Prop := fnExactLevelsFromRow.holds Try.pinned (OpenSpec.ofChange fnExactLevelsFromWrong)

/-- 'laws.FnExactLevelsOk': WHATEVER THE INPUT: true; the input reads as it did. -/
def fnExactLevelsOkSpec : ChangeSpec := { name := "fnExactLevelsOk", fn := fun _ => fun
  | [d] => { results := [.lit (.bool true)], args := [d] }
  | _ => none }
def fnExactLevelsOkRow : OpenClaim := { program := "ytgihpckibdnghaa", sum := "42f29bf03d73011f18b8a271342dba6a3bc8ea677f877c1cf38d8c1a8a1a4693", func := "loop.example/g01613/laws.FnExactLevelsOk", spec := "fnExactLevelsOk", apart := false }
def FnExactLevelsOkSaid : Prop := fnExactLevelsOkRow.holds Try.pinned (OpenSpec.ofChange fnExactLevelsOkSpec)

/-- ITS FALSE NEIGHBOUR: 'it returns false'. Refute it at one input. -/
def fnExactLevelsOkWrong : ChangeSpec := { name := "fnExactLevelsOk", fn := fun _ => fun
  | [d] => { results := [.lit (.bool false)], args := [d] }
  | _ => none }
def FnExactLevelsOkWrongFalsely : Prop := fnExactLevelsOkRow.holds Try.pinned (OpenSpec.ofChange fnExactLevelsOkWrong)

/-- 'laws.FnScans': WHATEVER THE INPUT: true; the input reads as it did. -/
def fnScansSpec : ChangeSpec := { name := "fnScans", fn := fun _ => fun
  | [d] => { results := [.lit (.bool true)], args := [d] }
  | _ => none }
def fnScansRow : OpenClaim := { program := "ytgihpckibdnghaa", sum := "42f29bf03d73011f18b8a271342dba6a3bc8ea677f877c1cf38d8c1a8a1a4693", func := "loop.example/g01613/laws.FnScans", spec := "fnScans", apart := false }
def FnScansSaid : Prop := fnScansRow.holds Try.pinned (OpenSpec.ofChange fnScansSpec)

/-- ITS FALSE NEIGHBOUR: 'it returns false'. Refute it at one input. -/
def fnScansWrong : ChangeSpec := { name := "fnScans", fn := fun _ => fun
  | [d] => { results := [.lit (.bool false)], args := [d] }
  | _ => none }
def FnScansWrongFalsely : Prop := fnScansRow.holds Try.pinned (OpenSpec.ofChange fnScansWrong)

/-- 'laws.FnExactScanned': WHATEVER THE INPUT: true; the input reads as it did. -/
def fnExactScannedSpec : ChangeSpec := { name := "fnExactScanned", fn := fun _ => fun
  | [d] => { results := [.lit (.bool true)], args := [d] }
  | _ => none }
def fnExactScannedRow : OpenClaim := { program := "ytgihpckibdnghaa", sum := "42f29bf03d73011f18b8a271342dba6a3bc8ea677f877c1cf38d8c1a8a1a4693", func := "loop.example/g01613/laws.FnExactScanned", spec := "fnExactScanned", apart := false }
def FnExactScannedSaid : Prop := fnExactScannedRow.holds Try.pinned (OpenSpec.ofChange fnExactScannedSpec)

/-- ITS FALSE NEIGHBOUR: 'it returns false'. Refute it at one input. -/
def fnExactScannedWrong : ChangeSpec := { name := "fnExactScanned", fn := fun _ => fun
  | [d] => { results := [.lit (.bool false)], args := [d] }
  | _ => none }
def FnExactScannedWrongFalsely : Prop := fnExactScannedRow.holds Try.pinned (OpenSpec.ofChange fnExactScannedWrong)

/-- 'laws.FnExactPlaced': WHATEVER THE INPUT: true; the input reads as it did. -/
def fnExactPlacedSpec : ChangeSpec := { name := "fnExactPlaced", fn := fun _ => fun
  | [d] => { results := [.lit (.bool true)], args := [d] }
  | _ => none }
def fnExactPlacedRow : OpenClaim := { program := "ytgihpckibdnghaa", sum := "42f29bf03d73011f18b8a271342dba6a3bc8ea677f877c1cf38d8c1a8a1a4693", func := "loop.example/g01613/laws.FnExactPlaced", spec := "fnExactPlaced", apart := false }
def FnExactPlacedSaid : Prop := fnExactPlacedRow.holds Try.pinned (OpenSpec.ofChange fnExactPlacedSpec)

/-- ITS FALSE NEIGHBOUR: 'it returns false'. Refute it at one input. -/
def fnExactPlacedWrong : ChangeSpec := { name := "fnExactPlaced", fn := fun _ => fun
  | [d] => { results := [.lit (.bool false)], args := [d] }
  | _ => none }
def FnExactPlacedWrongFalsely : Prop := fnExactPlacedRow.holds Try.pinned (OpenSpec.ofChange fnExactPlacedWrong)

/- THE SECOND FORM. 'bulk': how many values and letters a reading holds, each counted each time it is reached (what is shared counts as often as it is met; a slice's spare places count too). A statement '..UptoSaid' is the law's where the arguments, and the package variables that the reading takes, are together of bulk at most 1048576: NARROWER than '..Said'. Prove '..Said' where nothing that the law and all that it calls make is longer than what came in: it says more and counts as full. Else prove '..UptoSaid'. A law counts once. -/
mutual
def uptoBulk {H : Type} : DataW H → Nat
  | .lit (.string bytes) => bytes.length + 1
  | .lit _ => 1
  | .nil => 1
  | .ptr d => uptoBulk d + 1
  | .slice elems spare => uptoBulkAll elems + uptoBulkAll spare + 1
  | .agg parts => uptoBulkAll parts + 1
  | .iface _ d => uptoBulk d + 1
  | .map entries => uptoBulkEntries entries + 1
  | .held _ => 1
def uptoBulkAll {H : Type} : List (DataW H) → Nat
  | [] => 0
  | d :: r => uptoBulk d + uptoBulkAll r
def uptoBulkEntries {H : Type} : List (Lit × DataW H) → Nat
  | [] => 0
  | x :: r => uptoBulkEntry x + uptoBulkEntries r
def uptoBulkEntry {H : Type} : Lit × DataW H → Nat
  | (.string bytes, d) => bytes.length + uptoBulk d + 1
  | (_, d) => uptoBulk d + 1
 end
def uptoSmall : (H : Type) → List (DataW H) → Bool := fun _ ds => decide (uptoBulkAll ds ≤ 1048576)
def OpenSpec.upto (s : _root_.Go.ChangeSpec) : _root_.Go.OpenSpec := { _root_.Go.OpenSpec.ofChange s with cond := some uptoSmall }

/-- 'laws.FnRuns', WHERE WHAT IT READS IS OF BULK AT MOST 1048576: true; the input reads as it did. -/
def fnRunsUptoRow : OpenClaim := { program := "ytgihpckibdnghaa", sum := "42f29bf03d73011f18b8a271342dba6a3bc8ea677f877c1cf38d8c1a8a1a4693", func := "loop.example/g01613/laws.FnRuns", spec := "fnRuns", apart := false, narrowed := true }
def FnRunsUptoSaid : Prop := fnRunsUptoRow.holds Try.pinned (OpenSpec.upto fnRunsSpec)

/-- 'laws.FnExactPairsOf', WHERE WHAT IT READS IS OF BULK AT MOST 1048576: true; the input reads as it did. -/
def fnExactPairsOfUptoRow : OpenClaim := { program := "ytgihpckibdnghaa", sum := "42f29bf03d73011f18b8a271342dba6a3bc8ea677f877c1cf38d8c1a8a1a4693", func := "loop.example/g01613/laws.FnExactPairsOf", spec := "fnExactPairsOf", apart := false, narrowed := true }
def FnExactPairsOfUptoSaid : Prop := fnExactPairsOfUptoRow.holds Try.pinned (OpenSpec.upto fnExactPairsOfSpec)

/-- 'laws.FnExactLevelsFrom', WHERE WHAT IT READS IS OF BULK AT MOST 1048576: true; the input reads as it did. -/
def fnExactLevelsFromUptoRow : OpenClaim := { program := "ytgihpckibdnghaa", sum := "42f29bf03d73011f18b8a271342dba6a3bc8ea677f877c1cf38d8c1a8a1a4693", func := "loop.example/g01613/laws.FnExactLevelsFrom", spec := "fnExactLevelsFrom", apart := false, narrowed := true }
def FnExactLevelsFromUptoSaid : Prop := fnExactLevelsFromUptoRow.holds Try.pinned (OpenSpec.upto fnExactLevelsFromSpec)

/-- 'laws.FnExactLevelsOk', WHERE WHAT IT READS IS OF BULK AT MOST 1048576: true; the input reads as it did. -/
def fnExactLevelsOkUptoRow : OpenClaim := { program := "ytgihpckibdnghaa", sum := "42f29bf03d73011f18b8a271342dba6a3bc8ea677f877c1cf38d8c1a8a1a4693", func := "loop.example/g01613/laws.FnExactLevelsOk", spec := "fnExactLevelsOk", apart := false, narrowed := true }
def FnExactLevelsOkUptoSaid : Prop := fnExactLevelsOkUptoRow.holds Try.pinned (OpenSpec.upto fnExactLevelsOkSpec)

/-- 'laws.FnScans', WHERE WHAT IT READS IS OF BULK AT MOST 1048576: true; the input reads as it did. -/
def fnScansUptoRow : OpenClaim := { program := "ytgihpckibdnghaa", sum := "42f29bf03d73011f18b8a271342dba6a3bc8ea677f877c1cf38d8c1a8a1a4693", func := "loop.example/g01613/laws.FnScans", spec := "fnScans", apart := false, narrowed := true }
def FnScansUptoSaid : Prop := fnScansUptoRow.holds Try.pinned (OpenSpec.upto fnScansSpec)

/-- 'laws.FnExactScanned', WHERE WHAT IT READS IS OF BULK AT MOST 1048576: true; the input reads as it did. -/
def fnExactScannedUptoRow : OpenClaim := { program := "ytgihpckibdnghaa", sum := "42f29bf03d73011f18b8a271342dba6a3bc8ea677f877c1cf38d8c1a8a1a4693", func := "loop.example/g01613/laws.FnExactScanned", spec := "fnExactScanned", apart := false, narrowed := true }
def FnExactScannedUptoSaid : Prop := fnExactScannedUptoRow.holds Try.pinned (OpenSpec.upto fnExactScannedSpec)

/-- 'laws.FnExactPlaced', WHERE WHAT IT READS IS OF BULK AT MOST 1048576: true; the input reads as it did. -/
def fnExactPlacedUptoRow : OpenClaim := { program := "ytgihpckibdnghaa", sum := "42f29bf03d73011f18b8a271342dba6a3bc8ea677f877c1cf38d8c1a8a1a4693", func := "loop.example/g01613/laws.FnExactPlaced", spec := "fnExactPlaced", apart := false, narrowed := true }
def FnExactPlacedUptoSaid : Prop := fnExactPlacedUptoRow.holds Try.pinned (OpenSpec.upto fnExactPlacedSpec)

end Rows
end Go.Proofs.Ytgihpckibdnghaa
