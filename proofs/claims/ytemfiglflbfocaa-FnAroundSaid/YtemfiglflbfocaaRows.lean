/-
  No cell of these rows narrows 'for every input' (looked for: loops, veiled, ifaces, maps, wideKeys, modest, calm, conditions, laid).
  DERIVED. THE GIVEN ROWS OF THIS SEAT. 9 by the template 'for every input the law returns true; each argument reads behind the call as it read before'; 0 by the template 'total and deterministic' (their statements: YtemfiglflbfocaaTotals.lean).
  GIVEN WITH THE SEED: the statements are not yours to turn. If you find one false, say at which input.
  Laid BY PROGRAM, IN A SANDBOX (cutbox-rows.mjs): the forced cells as the released guide's own fill.sh prints them over the translation 368f63b701fdd1b4… (all of the seat's roots in one cut). By AI agents, Wed Nov 11 2026. No macro, syntax, notation, axiom, sorry.
-/
import Derived.Test.YtemfiglflbfocaaChecked
import GoSem.Claim
import GoSem.ClaimJoined
import GoSem.ClaimMapViews
import Derived.JoinedTies
import Derived.KernelRfl
namespace Go.Proofs.Ytemfiglflbfocaa
/- THE CELL 'sum', in the pinned program and in every row, IS THE sha256 OF THE DUMP (.gsa) THAT YtemfiglflbfocaaProg.lean LOADS. Nothing in Lean hashes anything: it is a label: what it is worth is what the hold of that sum in a sandbox is worth. -/
noncomputable def Try.pinned : Pinned := { name := "ytemfiglflbfocaa", sum := "368f63b701fdd1b484662e93a9650b3126ad6957b8199898613bda98d3057341", checked := Try.checked }
namespace Rows
def none {H : Type} : Left H := { results := [], args := [] }

/-- 'laws.FnBlocksIn': WHATEVER THE INPUT: true; the input reads as it did. -/
def fnBlocksInSpec : ChangeSpec := { name := "fnBlocksIn", fn := fun _ => fun
  | [d] => { results := [.lit (.bool true)], args := [d] }
  | _ => none }
def fnBlocksInRow : OpenClaim := { program := "ytemfiglflbfocaa", sum := "368f63b701fdd1b484662e93a9650b3126ad6957b8199898613bda98d3057341", func := "loop.example/g01613/laws.FnBlocksIn", spec := "fnBlocksIn", apart := false }
def FnBlocksInSaid : Prop := fnBlocksInRow.holds Try.pinned (OpenSpec.ofChange fnBlocksInSpec)

/-- ITS FALSE NEIGHBOUR: 'it returns false'. Refute it at one input. -/
def fnBlocksInWrong : ChangeSpec := { name := "fnBlocksIn", fn := fun _ => fun
  | [d] => { results := [.lit (.bool false)], args := [d] }
  | _ => none }
def FnBlocksInWrongFalsely : Prop := fnBlocksInRow.holds Try.pinned (OpenSpec.ofChange fnBlocksInWrong)

/-- 'laws.FnAround': WHATEVER THE INPUT: true; the input reads as it did. -/
def fnAroundSpec : ChangeSpec := { name := "fnAround", fn := fun _ => fun
  | [d] => { results := [.lit (.bool true)], args := [d] }
  | _ => none }
def fnAroundRow : OpenClaim := { program := "ytemfiglflbfocaa", sum := "368f63b701fdd1b484662e93a9650b3126ad6957b8199898613bda98d3057341", func := "loop.example/g01613/laws.FnAround", spec := "fnAround", apart := false }
def FnAroundSaid : Prop := fnAroundRow.holds Try.pinned (OpenSpec.ofChange fnAroundSpec)

/-- ITS FALSE NEIGHBOUR: 'it returns false'. Refute it at one input. -/
def fnAroundWrong : ChangeSpec := { name := "fnAround", fn := fun _ => fun
  | [d] => { results := [.lit (.bool false)], args := [d] }
  | _ => none }
def FnAroundWrongFalsely : Prop := fnAroundRow.holds Try.pinned (OpenSpec.ofChange fnAroundWrong)

/-- 'laws.FnExactSidesOk': WHATEVER THE INPUT: true; the input reads as it did. -/
def fnExactSidesOkSpec : ChangeSpec := { name := "fnExactSidesOk", fn := fun _ => fun
  | [d1, d2] => { results := [.lit (.bool true)], args := [d1, d2] }
  | _ => none }
def fnExactSidesOkRow : OpenClaim := { program := "ytemfiglflbfocaa", sum := "368f63b701fdd1b484662e93a9650b3126ad6957b8199898613bda98d3057341", func := "loop.example/g01613/laws.FnExactSidesOk", spec := "fnExactSidesOk", apart := false }
def FnExactSidesOkSaid : Prop := fnExactSidesOkRow.holds Try.pinned (OpenSpec.ofChange fnExactSidesOkSpec)

/-- ITS FALSE NEIGHBOUR: 'it returns false'. Refute it at one input. -/
def fnExactSidesOkWrong : ChangeSpec := { name := "fnExactSidesOk", fn := fun _ => fun
  | [d1, d2] => { results := [.lit (.bool false)], args := [d1, d2] }
  | _ => none }
def FnExactSidesOkWrongFalsely : Prop := fnExactSidesOkRow.holds Try.pinned (OpenSpec.ofChange fnExactSidesOkWrong)

/-- 'laws.FnExactFrameOk': WHATEVER THE INPUT: true; the input reads as it did. -/
def fnExactFrameOkSpec : ChangeSpec := { name := "fnExactFrameOk", fn := fun _ => fun
  | [d] => { results := [.lit (.bool true)], args := [d] }
  | _ => none }
def fnExactFrameOkRow : OpenClaim := { program := "ytemfiglflbfocaa", sum := "368f63b701fdd1b484662e93a9650b3126ad6957b8199898613bda98d3057341", func := "loop.example/g01613/laws.FnExactFrameOk", spec := "fnExactFrameOk", apart := false }
def FnExactFrameOkSaid : Prop := fnExactFrameOkRow.holds Try.pinned (OpenSpec.ofChange fnExactFrameOkSpec)

/-- ITS FALSE NEIGHBOUR: 'it returns false'. Refute it at one input. -/
def fnExactFrameOkWrong : ChangeSpec := { name := "fnExactFrameOk", fn := fun _ => fun
  | [d] => { results := [.lit (.bool false)], args := [d] }
  | _ => none }
def FnExactFrameOkWrongFalsely : Prop := fnExactFrameOkRow.holds Try.pinned (OpenSpec.ofChange fnExactFrameOkWrong)

/-- 'laws.FnExactFrameNew': WHATEVER THE INPUT: true; the input reads as it did. -/
def fnExactFrameNewSpec : ChangeSpec := { name := "fnExactFrameNew", fn := fun _ => fun
  | [d1, d2] => { results := [.lit (.bool true)], args := [d1, d2] }
  | _ => none }
def fnExactFrameNewRow : OpenClaim := { program := "ytemfiglflbfocaa", sum := "368f63b701fdd1b484662e93a9650b3126ad6957b8199898613bda98d3057341", func := "loop.example/g01613/laws.FnExactFrameNew", spec := "fnExactFrameNew", apart := false }
def FnExactFrameNewSaid : Prop := fnExactFrameNewRow.holds Try.pinned (OpenSpec.ofChange fnExactFrameNewSpec)

/-- ITS FALSE NEIGHBOUR: 'it returns false'. Refute it at one input. -/
def fnExactFrameNewWrong : ChangeSpec := { name := "fnExactFrameNew", fn := fun _ => fun
  | [d1, d2] => { results := [.lit (.bool false)], args := [d1, d2] }
  | _ => none }
def FnExactFrameNewWrongFalsely : Prop := fnExactFrameNewRow.holds Try.pinned (OpenSpec.ofChange fnExactFrameNewWrong)

/-- 'laws.FnExactBlockAt': WHATEVER THE INPUT: true; the input reads as it did. -/
def fnExactBlockAtSpec : ChangeSpec := { name := "fnExactBlockAt", fn := fun _ => fun
  | [d1, d2, d3, d4] => { results := [.lit (.bool true)], args := [d1, d2, d3, d4] }
  | _ => none }
def fnExactBlockAtRow : OpenClaim := { program := "ytemfiglflbfocaa", sum := "368f63b701fdd1b484662e93a9650b3126ad6957b8199898613bda98d3057341", func := "loop.example/g01613/laws.FnExactBlockAt", spec := "fnExactBlockAt", apart := false }
def FnExactBlockAtSaid : Prop := fnExactBlockAtRow.holds Try.pinned (OpenSpec.ofChange fnExactBlockAtSpec)

/-- ITS FALSE NEIGHBOUR: 'it returns false'. Refute it at one input. -/
def fnExactBlockAtWrong : ChangeSpec := { name := "fnExactBlockAt", fn := fun _ => fun
  | [d1, d2, d3, d4] => { results := [.lit (.bool false)], args := [d1, d2, d3, d4] }
  | _ => none }
def FnExactBlockAtWrongFalsely : Prop := fnExactBlockAtRow.holds Try.pinned (OpenSpec.ofChange fnExactBlockAtWrong)

/-- 'laws.FnExactSetBlock': WHATEVER THE INPUT: true; the input reads as it did. -/
def fnExactSetBlockSpec : ChangeSpec := { name := "fnExactSetBlock", fn := fun _ => fun
  | [d1, d2, d3, d4] => { results := [.lit (.bool true)], args := [d1, d2, d3, d4] }
  | _ => none }
def fnExactSetBlockRow : OpenClaim := { program := "ytemfiglflbfocaa", sum := "368f63b701fdd1b484662e93a9650b3126ad6957b8199898613bda98d3057341", func := "loop.example/g01613/laws.FnExactSetBlock", spec := "fnExactSetBlock", apart := false }
def FnExactSetBlockSaid : Prop := fnExactSetBlockRow.holds Try.pinned (OpenSpec.ofChange fnExactSetBlockSpec)

/-- ITS FALSE NEIGHBOUR: 'it returns false'. Refute it at one input. -/
def fnExactSetBlockWrong : ChangeSpec := { name := "fnExactSetBlock", fn := fun _ => fun
  | [d1, d2, d3, d4] => { results := [.lit (.bool false)], args := [d1, d2, d3, d4] }
  | _ => none }
def FnExactSetBlockWrongFalsely : Prop := fnExactSetBlockRow.holds Try.pinned (OpenSpec.ofChange fnExactSetBlockWrong)

/-- 'laws.FnExactNbAt': WHATEVER THE INPUT: true; the input reads as it did. -/
def fnExactNbAtSpec : ChangeSpec := { name := "fnExactNbAt", fn := fun _ => fun
  | [d1, d2, d3, d4] => { results := [.lit (.bool true)], args := [d1, d2, d3, d4] }
  | _ => none }
def fnExactNbAtRow : OpenClaim := { program := "ytemfiglflbfocaa", sum := "368f63b701fdd1b484662e93a9650b3126ad6957b8199898613bda98d3057341", func := "loop.example/g01613/laws.FnExactNbAt", spec := "fnExactNbAt", apart := false }
def FnExactNbAtSaid : Prop := fnExactNbAtRow.holds Try.pinned (OpenSpec.ofChange fnExactNbAtSpec)

/-- ITS FALSE NEIGHBOUR: 'it returns false'. Refute it at one input. -/
def fnExactNbAtWrong : ChangeSpec := { name := "fnExactNbAt", fn := fun _ => fun
  | [d1, d2, d3, d4] => { results := [.lit (.bool false)], args := [d1, d2, d3, d4] }
  | _ => none }
def FnExactNbAtWrongFalsely : Prop := fnExactNbAtRow.holds Try.pinned (OpenSpec.ofChange fnExactNbAtWrong)

/-- 'laws.FnExactSameFrame': WHATEVER THE INPUT: true; the input reads as it did. -/
def fnExactSameFrameSpec : ChangeSpec := { name := "fnExactSameFrame", fn := fun _ => fun
  | [d1, d2] => { results := [.lit (.bool true)], args := [d1, d2] }
  | _ => none }
def fnExactSameFrameRow : OpenClaim := { program := "ytemfiglflbfocaa", sum := "368f63b701fdd1b484662e93a9650b3126ad6957b8199898613bda98d3057341", func := "loop.example/g01613/laws.FnExactSameFrame", spec := "fnExactSameFrame", apart := false }
def FnExactSameFrameSaid : Prop := fnExactSameFrameRow.holds Try.pinned (OpenSpec.ofChange fnExactSameFrameSpec)

/-- ITS FALSE NEIGHBOUR: 'it returns false'. Refute it at one input. -/
def fnExactSameFrameWrong : ChangeSpec := { name := "fnExactSameFrame", fn := fun _ => fun
  | [d1, d2] => { results := [.lit (.bool false)], args := [d1, d2] }
  | _ => none }
def FnExactSameFrameWrongFalsely : Prop := fnExactSameFrameRow.holds Try.pinned (OpenSpec.ofChange fnExactSameFrameWrong)

/- THE SECOND FORM. 'bulk': how many values and letters a reading holds, each counted each time it is reached (what is shared counts as often as it is met; a slice's spare places count too). A statement '..UptoSaid' is the law's where the arguments, and the package variables that the reading takes, are together of bulk at most 1048576: NARROWER than '..Said'. Prove '..Said' where nothing that the law and all that it calls make is longer than what came in: it says more and counts as full. Else prove '..UptoSaid'. A law counts once. -/
mutual
def uptoBulk {H : Type} : DataW H → Nat
  | .lit (.string bytes) => bytes.length + 1
  | .lit _ => 1
  | .nil => 1
  | .ptr d => uptoBulk d + 1
  | .slice elems spare => uptoBulkAll elems + uptoBulkAll spare + 1
  | .agg parts => uptoBulkAll parts + 1
  | .iface _ d => uptoBulk d + 1
  | .map entries => uptoBulkEntries entries + 1
  | .held _ => 1
def uptoBulkAll {H : Type} : List (DataW H) → Nat
  | [] => 0
  | d :: r => uptoBulk d + uptoBulkAll r
def uptoBulkEntries {H : Type} : List (Lit × DataW H) → Nat
  | [] => 0
  | x :: r => uptoBulkEntry x + uptoBulkEntries r
def uptoBulkEntry {H : Type} : Lit × DataW H → Nat
  | (.string bytes, d) => bytes.length + uptoBulk d + 1
  | (_, d) => uptoBulk d + 1
 end
def uptoSmall : (H : Type) → List (DataW H) → Bool := fun _ ds => decide (uptoBulkAll ds ≤ 1048576)
def OpenSpec.upto (s : _root_.Go.ChangeSpec) : _root_.Go.OpenSpec := { _root_.Go.OpenSpec.ofChange s with cond := some uptoSmall }

/-- 'laws.FnBlocksIn', WHERE WHAT IT READS IS OF BULK AT MOST 1048576: true; the input reads as it did. -/
def fnBlocksInUptoRow : OpenClaim := { program := "ytemfiglflbfocaa", sum := "368f63b701fdd1b484662e93a9650b3126ad6957b8199898613bda98d3057341", func := "loop.example/g01613/laws.FnBlocksIn", spec := "fnBlocksIn", apart := false, narrowed := true }
def FnBlocksInUptoSaid : Prop := fnBlocksInUptoRow.holds Try.pinned (OpenSpec.upto fnBlocksInSpec)

/-- 'laws.FnAround', WHERE WHAT IT READS IS OF BULK AT MOST 1048576: true; the input reads as it did. -/
def fnAroundUptoRow : OpenClaim := { program := "ytemfiglflbfocaa", sum := "368f63b701fdd1b484662e93a9650b3126ad6957b8199898613bda98d3057341", func := "loop.example/g01613/laws.FnAround", spec := "fnAround", apart := false, narrowed := true }
def FnAroundUptoSaid : Prop := fnAroundUptoRow.holds Try.pinned (OpenSpec.upto fnAroundSpec)

/-- 'laws.FnExactSidesOk', WHERE WHAT IT READS IS OF BULK AT MOST 1048576: true; the input reads as it did. -/
def fnExactSidesOkUptoRow : OpenClaim := { program := "ytemfiglflbfocaa", sum := "368f63b701fdd1b484662e93a9650b3126ad6957b8199898613bda98d3057341", func := "loop.example/g01613/laws.FnExactSidesOk", spec := "fnExactSidesOk", apart := false, narrowed := true }
def FnExactSidesOkUptoSaid : Prop := fnExactSidesOkUptoRow.holds Try.pinned (OpenSpec.upto fnExactSidesOkSpec)

/-- 'laws.FnExactFrameOk', WHERE WHAT IT READS IS OF BULK AT MOST 1048576: true; the input reads as it did. -/
def fnExactFrameOkUptoRow : OpenClaim := { program := "ytemfiglflbfocaa", sum := "368f63b701fdd1b484662e93a9650b3126ad6957b8199898613bda98d3057341", func := "loop.example/g01613/laws.FnExactFrameOk", spec := "fnExactFrameOk", apart := false, narrowed := true }
def FnExactFrameOkUptoSaid : Prop := fnExactFrameOkUptoRow.holds Try.pinned (OpenSpec.upto fnExactFrameOkSpec)

/-- 'laws.FnExactFrameNew', WHERE WHAT IT READS IS OF BULK AT MOST 1048576: true; the input reads as it did. -/
def fnExactFrameNewUptoRow : OpenClaim := { program := "ytemfiglflbfocaa", sum := "368f63b701fdd1b484662e93a9650b3126ad6957b8199898613bda98d3057341", func := "loop.example/g01613/laws.FnExactFrameNew", spec := "fnExactFrameNew", apart := false, narrowed := true }
def FnExactFrameNewUptoSaid : Prop := fnExactFrameNewUptoRow.holds Try.pinned (OpenSpec.upto fnExactFrameNewSpec)

/-- 'laws.FnExactBlockAt', WHERE WHAT IT READS IS OF BULK AT MOST 1048576: true; the input reads as it did. -/
def fnExactBlockAtUptoRow : OpenClaim := { program := "ytemfiglflbfocaa", sum := "368f63b701fdd1b484662e93a9650b3126ad6957b8199898613bda98d3057341", func := "loop.example/g01613/laws.FnExactBlockAt", spec := "fnExactBlockAt", apart := false, narrowed := true }
def FnExactBlockAtUptoSaid : Prop := fnExactBlockAtUptoRow.holds Try.pinned (OpenSpec.upto fnExactBlockAtSpec)

/-- 'laws.FnExactSetBlock', WHERE WHAT IT READS IS OF BULK AT MOST 1048576: true; the input reads as it did. -/
def fnExactSetBlockUptoRow : OpenClaim := { program := "ytemfiglflbfocaa", sum := "368f63b701fdd1b484662e93a9650b3126ad6957b8199898613bda98d3057341", func := "loop.example/g01613/laws.FnExactSetBlock", spec := "fnExactSetBlock", apart := false, narrowed := true }
def FnExactSetBlockUptoSaid : Prop := fnExactSetBlockUptoRow.holds Try.pinned (OpenSpec.upto fnExactSetBlockSpec)

/-- 'laws.FnExactNbAt', WHERE WHAT IT READS IS OF BULK AT MOST 1048576: true; the input reads as it did. -/
def fnExactNbAtUptoRow : OpenClaim := { program := "ytemfiglflbfocaa", sum := "368f63b701fdd1b484662e93a9650b3126ad6957b8199898613bda98d3057341", func := "loop.example/g01613/laws.FnExactNbAt", spec := "fnExactNbAt", apart := false, narrowed := true }
def FnExactNbAtUptoSaid : Prop := fnExactNbAtUptoRow.holds Try.pinned (OpenSpec.upto fnExactNbAtSpec)

/-- 'laws.FnExactSameFrame', WHERE WHAT IT READS IS OF BULK AT MOST 1048576: true; the input reads as it did. -/
def fnExactSameFrameUptoRow : OpenClaim := { program := "ytemfiglflbfocaa", sum := "368f63b701fdd1b484662e93a9650b3126ad6957b8199898613bda98d3057341", func := "loop.example/g01613/laws.FnExactSameFrame", spec := "fnExactSameFrame", apart := false, narrowed := true }
def FnExactSameFrameUptoSaid : Prop := fnExactSameFrameUptoRow.holds Try.pinned (OpenSpec.upto fnExactSameFrameSpec)

end Rows
end Go.Proofs.Ytemfiglflbfocaa
