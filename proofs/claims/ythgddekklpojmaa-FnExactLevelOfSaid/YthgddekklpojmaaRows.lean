/-
  No cell of these rows narrows 'for every input' (looked for: loops, veiled, ifaces, maps, wideKeys, modest, calm, conditions, laid).
  DERIVED. THE GIVEN ROWS OF THIS SEAT. 7 by the template 'for every input the law returns true; each argument reads behind the call as it read before'; 0 by the template 'total and deterministic' (their statements: YthgddekklpojmaaTotals.lean).
  GIVEN WITH THE SEED: the statements are not yours to turn. If you find one false, say at which input.
  Laid BY PROGRAM, IN A SANDBOX (cutbox-rows.mjs): the forced cells as the released guide's own fill.sh prints them over the translation 22122686c4d936e8… (all of the seat's roots in one cut). By AI agents, Wed Nov 11 2026. No macro, syntax, notation, axiom, sorry.
-/
import Derived.Test.YthgddekklpojmaaChecked
import GoSem.Claim
import GoSem.ClaimJoined
import GoSem.ClaimMapViews
import Derived.JoinedTies
import Derived.KernelRfl
namespace Go.Proofs.Ythgddekklpojmaa
/- THE CELL 'sum', in the pinned program and in every row, IS THE sha256 OF THE DUMP (.gsa) THAT YthgddekklpojmaaProg.lean LOADS. Nothing in Lean hashes anything: it is a label: what it is worth is what the hold of that sum in a sandbox is worth. -/
noncomputable def Try.pinned : Pinned := { name := "ythgddekklpojmaa", sum := "22122686c4d936e8d4190a79187b330d7a59d28d357eaf63a1a6d781432f75a6", checked := Try.checked }
namespace Rows
def none {H : Type} : Left H := { results := [], args := [] }

/-- 'laws.FnNumbersRead': WHATEVER THE INPUT: true; the input reads as it did. -/
def fnNumbersReadSpec : ChangeSpec := { name := "fnNumbersRead", fn := fun _ => fun
  | [d] => { results := [.lit (.bool true)], args := [d] }
  | _ => none }
def fnNumbersReadRow : OpenClaim := { program := "ythgddekklpojmaa", sum := "22122686c4d936e8d4190a79187b330d7a59d28d357eaf63a1a6d781432f75a6", func := "loop.example/g01613/laws.FnNumbersRead", spec := "fnNumbersRead", apart := false }
def FnNumbersReadSaid : Prop := fnNumbersReadRow.holds Try.pinned (OpenSpec.ofChange fnNumbersReadSpec)

/-- ITS FALSE NEIGHBOUR: 'it returns false'. Refute it at one input. -/
def fnNumbersReadWrong : ChangeSpec := { name := "fnNumbersRead", fn := fun _ => fun
  | [d] => { results := [.lit (.bool false)], args := [d] }
  | _ => none }
def FnNumbersReadWrongFalsely : Prop := fnNumbersReadRow.holds Try.pinned (OpenSpec.ofChange fnNumbersReadWrong)

/-- 'laws.FnExactErWord': WHATEVER THE INPUT: true; the input reads as it did. -/
def fnExactErWordSpec : ChangeSpec := { name := "fnExactErWord", fn := fun _ => fun
  | [d] => { results := [.lit (.bool true)], args := [d] }
  | _ => none }
def fnExactErWordRow : OpenClaim := { program := "ythgddekklpojmaa", sum := "22122686c4d936e8d4190a79187b330d7a59d28d357eaf63a1a6d781432f75a6", func := "loop.example/g01613/laws.FnExactErWord", spec := "fnExactErWord", apart := false }
def FnExactErWordSaid : Prop := fnExactErWordRow.holds Try.pinned (OpenSpec.ofChange fnExactErWordSpec)

/-- ITS FALSE NEIGHBOUR: 'it returns false'. Refute it at one input. -/
def fnExactErWordWrong : ChangeSpec := { name := "fnExactErWord", fn := fun _ => fun
  | [d] => { results := [.lit (.bool false)], args := [d] }
  | _ => none }
def FnExactErWordWrongFalsely : Prop := fnExactErWordRow.holds Try.pinned (OpenSpec.ofChange fnExactErWordWrong)

/-- 'laws.FnExactUeBits': WHATEVER THE INPUT: true; the input reads as it did. -/
def fnExactUeBitsSpec : ChangeSpec := { name := "fnExactUeBits", fn := fun _ => fun
  | [d] => { results := [.lit (.bool true)], args := [d] }
  | _ => none }
def fnExactUeBitsRow : OpenClaim := { program := "ythgddekklpojmaa", sum := "22122686c4d936e8d4190a79187b330d7a59d28d357eaf63a1a6d781432f75a6", func := "loop.example/g01613/laws.FnExactUeBits", spec := "fnExactUeBits", apart := false }
def FnExactUeBitsSaid : Prop := fnExactUeBitsRow.holds Try.pinned (OpenSpec.ofChange fnExactUeBitsSpec)

/-- ITS FALSE NEIGHBOUR: 'it returns false'. Refute it at one input. -/
def fnExactUeBitsWrong : ChangeSpec := { name := "fnExactUeBits", fn := fun _ => fun
  | [d] => { results := [.lit (.bool false)], args := [d] }
  | _ => none }
def FnExactUeBitsWrongFalsely : Prop := fnExactUeBitsRow.holds Try.pinned (OpenSpec.ofChange fnExactUeBitsWrong)

/-- 'laws.FnExactReadUe': WHATEVER THE INPUT: true; the input reads as it did. -/
def fnExactReadUeSpec : ChangeSpec := { name := "fnExactReadUe", fn := fun _ => fun
  | [d] => { results := [.lit (.bool true)], args := [d] }
  | _ => none }
def fnExactReadUeRow : OpenClaim := { program := "ythgddekklpojmaa", sum := "22122686c4d936e8d4190a79187b330d7a59d28d357eaf63a1a6d781432f75a6", func := "loop.example/g01613/laws.FnExactReadUe", spec := "fnExactReadUe", apart := false }
def FnExactReadUeSaid : Prop := fnExactReadUeRow.holds Try.pinned (OpenSpec.ofChange fnExactReadUeSpec)

/-- ITS FALSE NEIGHBOUR: 'it returns false'. Refute it at one input. -/
def fnExactReadUeWrong : ChangeSpec := { name := "fnExactReadUe", fn := fun _ => fun
  | [d] => { results := [.lit (.bool false)], args := [d] }
  | _ => none }
def FnExactReadUeWrongFalsely : Prop := fnExactReadUeRow.holds Try.pinned (OpenSpec.ofChange fnExactReadUeWrong)

/-- 'laws.FnExactLevelOf': WHATEVER THE INPUT: true; the input reads as it did. -/
def fnExactLevelOfSpec : ChangeSpec := { name := "fnExactLevelOf", fn := fun _ => fun
  | [d] => { results := [.lit (.bool true)], args := [d] }
  | _ => none }
def fnExactLevelOfRow : OpenClaim := { program := "ythgddekklpojmaa", sum := "22122686c4d936e8d4190a79187b330d7a59d28d357eaf63a1a6d781432f75a6", func := "loop.example/g01613/laws.FnExactLevelOf", spec := "fnExactLevelOf", apart := false }
def FnExactLevelOfSaid : Prop := fnExactLevelOfRow.holds Try.pinned (OpenSpec.ofChange fnExactLevelOfSpec)

/-- ITS FALSE NEIGHBOUR: 'it returns false'. Refute it at one input. -/
def fnExactLevelOfWrong : ChangeSpec := { name := "fnExactLevelOf", fn := fun _ => fun
  | [d] => { results := [.lit (.bool false)], args := [d] }
  | _ => none }
def FnExactLevelOfWrongFalsely : Prop := fnExactLevelOfRow.holds Try.pinned (OpenSpec.ofChange fnExactLevelOfWrong)

/-- 'laws.FnExactNumOfLevel': WHATEVER THE INPUT: true; the input reads as it did. -/
def fnExactNumOfLevelSpec : ChangeSpec := { name := "fnExactNumOfLevel", fn := fun _ => fun
  | [d] => { results := [.lit (.bool true)], args := [d] }
  | _ => none }
def fnExactNumOfLevelRow : OpenClaim := { program := "ythgddekklpojmaa", sum := "22122686c4d936e8d4190a79187b330d7a59d28d357eaf63a1a6d781432f75a6", func := "loop.example/g01613/laws.FnExactNumOfLevel", spec := "fnExactNumOfLevel", apart := false }
def FnExactNumOfLevelSaid : Prop := fnExactNumOfLevelRow.holds Try.pinned (OpenSpec.ofChange fnExactNumOfLevelSpec)

/-- ITS FALSE NEIGHBOUR: 'it returns false'. Refute it at one input. -/
def fnExactNumOfLevelWrong : ChangeSpec := { name := "fnExactNumOfLevel", fn := fun _ => fun
  | [d] => { results := [.lit (.bool false)], args := [d] }
  | _ => none }
def FnExactNumOfLevelWrongFalsely : Prop := fnExactNumOfLevelRow.holds Try.pinned (OpenSpec.ofChange fnExactNumOfLevelWrong)

/-- 'laws.FnExactUeSize': WHATEVER THE INPUT: true; the input reads as it did. -/
def fnExactUeSizeSpec : ChangeSpec := { name := "fnExactUeSize", fn := fun _ => fun
  | [d] => { results := [.lit (.bool true)], args := [d] }
  | _ => none }
def fnExactUeSizeRow : OpenClaim := { program := "ythgddekklpojmaa", sum := "22122686c4d936e8d4190a79187b330d7a59d28d357eaf63a1a6d781432f75a6", func := "loop.example/g01613/laws.FnExactUeSize", spec := "fnExactUeSize", apart := false }
def FnExactUeSizeSaid : Prop := fnExactUeSizeRow.holds Try.pinned (OpenSpec.ofChange fnExactUeSizeSpec)

/-- ITS FALSE NEIGHBOUR: 'it returns false'. Refute it at one input. -/
def fnExactUeSizeWrong : ChangeSpec := { name := "fnExactUeSize", fn := fun _ => fun
  | [d] => { results := [.lit (.bool false)], args := [d] }
  | _ => none }
def FnExactUeSizeWrongFalsely : Prop := fnExactUeSizeRow.holds Try.pinned (OpenSpec.ofChange fnExactUeSizeWrong)

/- THE SECOND FORM. 'bulk': how many values and letters a reading holds, each counted each time it is reached (what is shared counts as often as it is met; a slice's spare places count too). A statement '..UptoSaid' is the law's where the arguments, and the package variables that the reading takes, are together of bulk at most 1048576: NARROWER than '..Said'. Prove '..Said' where nothing that the law and all that it calls make is longer than what came in: it says more and counts as full. Else prove '..UptoSaid'. A law counts once. -/
mutual
def uptoBulk {H : Type} : DataW H → Nat
  | .lit (.string bytes) => bytes.length + 1
  | .lit _ => 1
  | .nil => 1
  | .ptr d => uptoBulk d + 1
  | .slice elems spare => uptoBulkAll elems + uptoBulkAll spare + 1
  | .agg parts => uptoBulkAll parts + 1
  | .iface _ d => uptoBulk d + 1
  | .map entries => uptoBulkEntries entries + 1
  | .held _ => 1
def uptoBulkAll {H : Type} : List (DataW H) → Nat
  | [] => 0
  | d :: r => uptoBulk d + uptoBulkAll r
def uptoBulkEntries {H : Type} : List (Lit × DataW H) → Nat
  | [] => 0
  | x :: r => uptoBulkEntry x + uptoBulkEntries r
def uptoBulkEntry {H : Type} : Lit × DataW H → Nat
  | (.string bytes, d) => bytes.length + uptoBulk d + 1
  | (_, d) => uptoBulk d + 1
 end
def uptoSmall : (H : Type) → List (DataW H) → Bool := fun _ ds => decide (uptoBulkAll ds ≤ 1048576)
def OpenSpec.upto (s : _root_.Go.ChangeSpec) : _root_.Go.OpenSpec := { _root_.Go.OpenSpec.ofChange s with cond := some uptoSmall }

/-- 'laws.FnNumbersRead', WHERE WHAT IT READS IS OF BULK AT MOST 1048576: true; the input reads as it did. -/
def fnNumbersReadUptoRow : OpenClaim := { program := "ythgddekklpojmaa", sum := "22122686c4d936e8d4190a79187b330d7a59d28d357eaf63a1a6d781432f75a6", func := "loop.example/g01613/laws.FnNumbersRead", spec := "fnNumbersRead", apart := false, narrowed := true }
def FnNumbersReadUptoSaid : Prop := fnNumbersReadUptoRow.holds Try.pinned (OpenSpec.upto fnNumbersReadSpec)

/-- 'laws.FnExactErWord', WHERE WHAT IT READS IS OF BULK AT MOST 1048576: true; the input reads as it did. -/
def fnExactErWordUptoRow : OpenClaim := { program := "ythgddekklpojmaa", sum := "22122686c4d936e8d4190a79187b330d7a59d28d357eaf63a1a6d781432f75a6", func := "loop.example/g01613/laws.FnExactErWord", spec := "fnExactErWord", apart := false, narrowed := true }
def FnExactErWordUptoSaid : Prop := fnExactErWordUptoRow.holds Try.pinned (OpenSpec.upto fnExactErWordSpec)

/-- 'laws.FnExactUeBits', WHERE WHAT IT READS IS OF BULK AT MOST 1048576: true; the input reads as it did. -/
def fnExactUeBitsUptoRow : OpenClaim := { program := "ythgddekklpojmaa", sum := "22122686c4d936e8d4190a79187b330d7a59d28d357eaf63a1a6d781432f75a6", func := "loop.example/g01613/laws.FnExactUeBits", spec := "fnExactUeBits", apart := false, narrowed := true }
def FnExactUeBitsUptoSaid : Prop := fnExactUeBitsUptoRow.holds Try.pinned (OpenSpec.upto fnExactUeBitsSpec)

/-- 'laws.FnExactReadUe', WHERE WHAT IT READS IS OF BULK AT MOST 1048576: true; the input reads as it did. -/
def fnExactReadUeUptoRow : OpenClaim := { program := "ythgddekklpojmaa", sum := "22122686c4d936e8d4190a79187b330d7a59d28d357eaf63a1a6d781432f75a6", func := "loop.example/g01613/laws.FnExactReadUe", spec := "fnExactReadUe", apart := false, narrowed := true }
def FnExactReadUeUptoSaid : Prop := fnExactReadUeUptoRow.holds Try.pinned (OpenSpec.upto fnExactReadUeSpec)

/-- 'laws.FnExactLevelOf', WHERE WHAT IT READS IS OF BULK AT MOST 1048576: true; the input reads as it did. -/
def fnExactLevelOfUptoRow : OpenClaim := { program := "ythgddekklpojmaa", sum := "22122686c4d936e8d4190a79187b330d7a59d28d357eaf63a1a6d781432f75a6", func := "loop.example/g01613/laws.FnExactLevelOf", spec := "fnExactLevelOf", apart := false, narrowed := true }
def FnExactLevelOfUptoSaid : Prop := fnExactLevelOfUptoRow.holds Try.pinned (OpenSpec.upto fnExactLevelOfSpec)

/-- 'laws.FnExactNumOfLevel', WHERE WHAT IT READS IS OF BULK AT MOST 1048576: true; the input reads as it did. -/
def fnExactNumOfLevelUptoRow : OpenClaim := { program := "ythgddekklpojmaa", sum := "22122686c4d936e8d4190a79187b330d7a59d28d357eaf63a1a6d781432f75a6", func := "loop.example/g01613/laws.FnExactNumOfLevel", spec := "fnExactNumOfLevel", apart := false, narrowed := true }
def FnExactNumOfLevelUptoSaid : Prop := fnExactNumOfLevelUptoRow.holds Try.pinned (OpenSpec.upto fnExactNumOfLevelSpec)

/-- 'laws.FnExactUeSize', WHERE WHAT IT READS IS OF BULK AT MOST 1048576: true; the input reads as it did. -/
def fnExactUeSizeUptoRow : OpenClaim := { program := "ythgddekklpojmaa", sum := "22122686c4d936e8d4190a79187b330d7a59d28d357eaf63a1a6d781432f75a6", func := "loop.example/g01613/laws.FnExactUeSize", spec := "fnExactUeSize", apart := false, narrowed := true }
def FnExactUeSizeUptoSaid : Prop := fnExactUeSizeUptoRow.holds Try.pinned (OpenSpec.upto fnExactUeSizeSpec)

end Rows
end Go.Proofs.Ythgddekklpojmaa
