/-
  No cell of these rows narrows 'for every input' (looked for: loops, veiled, ifaces, maps, wideKeys, modest, calm, conditions, laid).
  DERIVED. THE GIVEN ROWS OF THIS SEAT. 3 by the template 'for every input the law returns true; each argument reads behind the call as it read before'; 0 by the template 'total and deterministic' (their statements: YteafnokhefdmpaaTotals.lean).
  GIVEN WITH THE SEED: the statements are not yours to turn. If you find one false, say at which input.
  Laid BY PROGRAM, IN A SANDBOX (cutbox-rows.mjs): the forced cells as the released guide's own fill.sh prints them over the translation 976b71620ac82c42… (all of the seat's roots in one cut). By AI agents, Wed Nov 11 2026. No macro, syntax, notation, axiom, sorry.
-/
import Derived.Test.YteafnokhefdmpaaChecked
import GoSem.Claim
import GoSem.ClaimJoined
import GoSem.ClaimMapViews
import Derived.JoinedTies
import Derived.KernelRfl
namespace Go.Proofs.Yteafnokhefdmpaa
/- THE CELL 'sum', in the pinned program and in every row, IS THE sha256 OF THE DUMP (.gsa) THAT YteafnokhefdmpaaProg.lean LOADS. Nothing in Lean hashes anything: it is a label: what it is worth is what the hold of that sum in a sandbox is worth. -/
noncomputable def Try.pinned : Pinned := { name := "yteafnokhefdmpaa", sum := "976b71620ac82c423bc5881f7d12d68d85a9625cb903082bfc7c73152fb12245", checked := Try.checked }
namespace Rows
def none {H : Type} : Left H := { results := [], args := [] }

/-- 'laws.FnExactPredAt': WHATEVER THE INPUT: true; the input reads as it did. -/
def fnExactPredAtSpec : ChangeSpec := { name := "fnExactPredAt", fn := fun _ => fun
  | [d1, d2, d3, d4, d5] => { results := [.lit (.bool true)], args := [d1, d2, d3, d4, d5] }
  | _ => none }
def fnExactPredAtRow : OpenClaim := { program := "yteafnokhefdmpaa", sum := "976b71620ac82c423bc5881f7d12d68d85a9625cb903082bfc7c73152fb12245", func := "loop.example/g01613/laws.FnExactPredAt", spec := "fnExactPredAt", unfollowed := true, recurses := true, apart := false }
def FnExactPredAtSaid : Prop := fnExactPredAtRow.holds Try.pinned (OpenSpec.ofChange fnExactPredAtSpec)

/-- ITS FALSE NEIGHBOUR: 'it returns false'. Refute it at one input. -/
def fnExactPredAtWrong : ChangeSpec := { name := "fnExactPredAt", fn := fun _ => fun
  | [d1, d2, d3, d4, d5] => { results := [.lit (.bool false)], args := [d1, d2, d3, d4, d5] }
  | _ => none }
def FnExactPredAtWrongFalsely : Prop := fnExactPredAtRow.holds Try.pinned (OpenSpec.ofChange fnExactPredAtWrong)

/-- 'laws.FnExactPred': WHATEVER THE INPUT: true; the input reads as it did. -/
def fnExactPredSpec : ChangeSpec := { name := "fnExactPred", fn := fun _ => fun
  | [d1, d2, d3] => { results := [.lit (.bool true)], args := [d1, d2, d3] }
  | _ => none }
def fnExactPredRow : OpenClaim := { program := "yteafnokhefdmpaa", sum := "976b71620ac82c423bc5881f7d12d68d85a9625cb903082bfc7c73152fb12245", func := "loop.example/g01613/laws.FnExactPred", spec := "fnExactPred", unfollowed := true, recurses := true, apart := false }
def FnExactPredSaid : Prop := fnExactPredRow.holds Try.pinned (OpenSpec.ofChange fnExactPredSpec)

/-- ITS FALSE NEIGHBOUR: 'it returns false'. Refute it at one input. -/
def fnExactPredWrong : ChangeSpec := { name := "fnExactPred", fn := fun _ => fun
  | [d1, d2, d3] => { results := [.lit (.bool false)], args := [d1, d2, d3] }
  | _ => none }
def FnExactPredWrongFalsely : Prop := fnExactPredRow.holds Try.pinned (OpenSpec.ofChange fnExactPredWrong)

/-- 'laws.FnExactModeWord': WHATEVER THE INPUT: true; the input reads as it did. -/
def fnExactModeWordSpec : ChangeSpec := { name := "fnExactModeWord", fn := fun _ => fun
  | [d] => { results := [.lit (.bool true)], args := [d] }
  | _ => none }
def fnExactModeWordRow : OpenClaim := { program := "yteafnokhefdmpaa", sum := "976b71620ac82c423bc5881f7d12d68d85a9625cb903082bfc7c73152fb12245", func := "loop.example/g01613/laws.FnExactModeWord", spec := "fnExactModeWord", apart := false }
def FnExactModeWordSaid : Prop := fnExactModeWordRow.holds Try.pinned (OpenSpec.ofChange fnExactModeWordSpec)

/-- ITS FALSE NEIGHBOUR: 'it returns false'. Refute it at one input. -/
def fnExactModeWordWrong : ChangeSpec := { name := "fnExactModeWord", fn := fun _ => fun
  | [d] => { results := [.lit (.bool false)], args := [d] }
  | _ => none }
def FnExactModeWordWrongFalsely : Prop := fnExactModeWordRow.holds Try.pinned (OpenSpec.ofChange fnExactModeWordWrong)

/- THE SECOND FORM. 'bulk': how many values and letters a reading holds, each counted each time it is reached (what is shared counts as often as it is met; a slice's spare places count too). A statement '..UptoSaid' is the law's where the arguments, and the package variables that the reading takes, are together of bulk at most 1048576: NARROWER than '..Said'. Prove '..Said' where nothing that the law and all that it calls make is longer than what came in: it says more and counts as full. Else prove '..UptoSaid'. A law counts once. -/
mutual
def uptoBulk {H : Type} : DataW H → Nat
  | .lit (.string bytes) => bytes.length + 1
  | .lit _ => 1
  | .nil => 1
  | .ptr d => uptoBulk d + 1
  | .slice elems spare => uptoBulkAll elems + uptoBulkAll spare + 1
  | .agg parts => uptoBulkAll parts + 1
  | .iface _ d => uptoBulk d + 1
  | .map entries => uptoBulkEntries entries + 1
  | .held _ => 1
def uptoBulkAll {H : Type} : List (DataW H) → Nat
  | [] => 0
  | d :: r => uptoBulk d + uptoBulkAll r
def uptoBulkEntries {H : Type} : List (Lit × DataW H) → Nat
  | [] => 0
  | x :: r => uptoBulkEntry x + uptoBulkEntries r
def uptoBulkEntry {H : Type} : Lit × DataW H → Nat
  | (.string bytes, d) => bytes.length + uptoBulk d + 1
  | (_, d) => uptoBulk d + 1
 end
def uptoSmall : (H : Type) → List (DataW H) → Bool := fun _ ds => decide (uptoBulkAll ds ≤ 1048576)
def OpenSpec.upto (s : _root_.Go.ChangeSpec) : _root_.Go.OpenSpec := { _root_.Go.OpenSpec.ofChange s with cond := some uptoSmall }

/-- 'laws.FnExactPredAt', WHERE WHAT IT READS IS OF BULK AT MOST 1048576: true; the input reads as it did. -/
def fnExactPredAtUptoRow : OpenClaim := { program := "yteafnokhefdmpaa", sum := "976b71620ac82c423bc5881f7d12d68d85a9625cb903082bfc7c73152fb12245", func := "loop.example/g01613/laws.FnExactPredAt", spec := "fnExactPredAt", unfollowed := true, recurses := true, apart := false, narrowed := true }
def FnExactPredAtUptoSaid : Prop := fnExactPredAtUptoRow.holds Try.pinned (OpenSpec.upto fnExactPredAtSpec)

/-- 'laws.FnExactPred', WHERE WHAT IT READS IS OF BULK AT MOST 1048576: true; the input reads as it did. -/
def fnExactPredUptoRow : OpenClaim := { program := "yteafnokhefdmpaa", sum := "976b71620ac82c423bc5881f7d12d68d85a9625cb903082bfc7c73152fb12245", func := "loop.example/g01613/laws.FnExactPred", spec := "fnExactPred", unfollowed := true, recurses := true, apart := false, narrowed := true }
def FnExactPredUptoSaid : Prop := fnExactPredUptoRow.holds Try.pinned (OpenSpec.upto fnExactPredSpec)

/-- 'laws.FnExactModeWord', WHERE WHAT IT READS IS OF BULK AT MOST 1048576: true; the input reads as it did. -/
def fnExactModeWordUptoRow : OpenClaim := { program := "yteafnokhefdmpaa", sum := "976b71620ac82c423bc5881f7d12d68d85a9625cb903082bfc7c73152fb12245", func := "loop.example/g01613/laws.FnExactModeWord", spec := "fnExactModeWord", apart := false, narrowed := true }
def FnExactModeWordUptoSaid : Prop := fnExactModeWordUptoRow.holds Try.pinned (OpenSpec.upto fnExactModeWordSpec)

end Rows
end Go.Proofs.Yteafnokhefdmpaa
