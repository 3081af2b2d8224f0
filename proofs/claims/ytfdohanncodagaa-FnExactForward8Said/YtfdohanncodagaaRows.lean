/-
  No cell of these rows narrows 'for every input' (looked for: loops, veiled, ifaces, maps, wideKeys, modest, calm, conditions, laid).
  DERIVED. THE GIVEN ROWS OF THIS SEAT. 5 by the template 'for every input the law returns true; each argument reads behind the call as it read before'; 0 by the template 'total and deterministic' (their statements: YtfdohanncodagaaTotals.lean).
  GIVEN WITH THE SEED: the statements are not yours to turn. If you find one false, say at which input.
  Laid BY PROGRAM, IN A SANDBOX (cutbox-rows.mjs): the forced cells as the released guide's own fill.sh prints them over the translation c8f8f01855b825b3… (all of the seat's roots in one cut). By AI agents, Wed Nov 11 2026. No macro, syntax, notation, axiom, sorry.
-/
import Derived.Test.YtfdohanncodagaaChecked
import GoSem.Claim
import GoSem.ClaimJoined
import GoSem.ClaimMapViews
import Derived.JoinedTies
import Derived.KernelRfl
namespace Go.Proofs.Ytfdohanncodagaa
/- THE CELL 'sum', in the pinned program and in every row, IS THE sha256 OF THE DUMP (.gsa) THAT YtfdohanncodagaaProg.lean LOADS. Nothing in Lean hashes anything: it is a label: what it is worth is what the hold of that sum in a sandbox is worth. -/
noncomputable def Try.pinned : Pinned := { name := "ytfdohanncodagaa", sum := "c8f8f01855b825b392dbeb10d9c8475ddb7f5ebf0b3539443de3fd2433819210", checked := Try.checked }
namespace Rows
def none {H : Type} : Left H := { results := [], args := [] }

/-- 'laws.FnExactForward4': WHATEVER THE INPUT: true; the input reads as it did. -/
def fnExactForward4Spec : ChangeSpec := { name := "fnExactForward4", fn := fun _ => fun
  | [d] => { results := [.lit (.bool true)], args := [d] }
  | _ => none }
def fnExactForward4Row : OpenClaim := { program := "ytfdohanncodagaa", sum := "c8f8f01855b825b392dbeb10d9c8475ddb7f5ebf0b3539443de3fd2433819210", func := "loop.example/g01613/laws.FnExactForward4", spec := "fnExactForward4", apart := false }
def FnExactForward4Said : Prop := fnExactForward4Row.holds Try.pinned (OpenSpec.ofChange fnExactForward4Spec)

/-- ITS FALSE NEIGHBOUR: 'it returns false'. Refute it at one input. -/
def fnExactForward4Wrong : ChangeSpec := { name := "fnExactForward4", fn := fun _ => fun
  | [d] => { results := [.lit (.bool false)], args := [d] }
  | _ => none }
def FnExactForward4WrongFalsely : Prop := fnExactForward4Row.holds Try.pinned (OpenSpec.ofChange fnExactForward4Wrong)

/-- 'laws.FnExactInverse4': WHATEVER THE INPUT: true; the input reads as it did. -/
def fnExactInverse4Spec : ChangeSpec := { name := "fnExactInverse4", fn := fun _ => fun
  | [d] => { results := [.lit (.bool true)], args := [d] }
  | _ => none }
def fnExactInverse4Row : OpenClaim := { program := "ytfdohanncodagaa", sum := "c8f8f01855b825b392dbeb10d9c8475ddb7f5ebf0b3539443de3fd2433819210", func := "loop.example/g01613/laws.FnExactInverse4", spec := "fnExactInverse4", apart := false }
def FnExactInverse4Said : Prop := fnExactInverse4Row.holds Try.pinned (OpenSpec.ofChange fnExactInverse4Spec)

/-- ITS FALSE NEIGHBOUR: 'it returns false'. Refute it at one input. -/
def fnExactInverse4Wrong : ChangeSpec := { name := "fnExactInverse4", fn := fun _ => fun
  | [d] => { results := [.lit (.bool false)], args := [d] }
  | _ => none }
def FnExactInverse4WrongFalsely : Prop := fnExactInverse4Row.holds Try.pinned (OpenSpec.ofChange fnExactInverse4Wrong)

/-- 'laws.FnExactForward8': WHATEVER THE INPUT: true; the input reads as it did. -/
def fnExactForward8Spec : ChangeSpec := { name := "fnExactForward8", fn := fun _ => fun
  | [d] => { results := [.lit (.bool true)], args := [d] }
  | _ => none }
def fnExactForward8Row : OpenClaim := { program := "ytfdohanncodagaa", sum := "c8f8f01855b825b392dbeb10d9c8475ddb7f5ebf0b3539443de3fd2433819210", func := "loop.example/g01613/laws.FnExactForward8", spec := "fnExactForward8", apart := false }
def FnExactForward8Said : Prop := fnExactForward8Row.holds Try.pinned (OpenSpec.ofChange fnExactForward8Spec)

/-- ITS FALSE NEIGHBOUR: 'it returns false'. Refute it at one input. -/
def fnExactForward8Wrong : ChangeSpec := { name := "fnExactForward8", fn := fun _ => fun
  | [d] => { results := [.lit (.bool false)], args := [d] }
  | _ => none }
def FnExactForward8WrongFalsely : Prop := fnExactForward8Row.holds Try.pinned (OpenSpec.ofChange fnExactForward8Wrong)

/-- 'laws.FnExactInverse8': WHATEVER THE INPUT: true; the input reads as it did. -/
def fnExactInverse8Spec : ChangeSpec := { name := "fnExactInverse8", fn := fun _ => fun
  | [d] => { results := [.lit (.bool true)], args := [d] }
  | _ => none }
def fnExactInverse8Row : OpenClaim := { program := "ytfdohanncodagaa", sum := "c8f8f01855b825b392dbeb10d9c8475ddb7f5ebf0b3539443de3fd2433819210", func := "loop.example/g01613/laws.FnExactInverse8", spec := "fnExactInverse8", apart := false }
def FnExactInverse8Said : Prop := fnExactInverse8Row.holds Try.pinned (OpenSpec.ofChange fnExactInverse8Spec)

/-- ITS FALSE NEIGHBOUR: 'it returns false'. Refute it at one input. -/
def fnExactInverse8Wrong : ChangeSpec := { name := "fnExactInverse8", fn := fun _ => fun
  | [d] => { results := [.lit (.bool false)], args := [d] }
  | _ => none }
def FnExactInverse8WrongFalsely : Prop := fnExactInverse8Row.holds Try.pinned (OpenSpec.ofChange fnExactInverse8Wrong)

/-- 'laws.FnExactRounded': WHATEVER THE INPUT: true; the input reads as it did. -/
def fnExactRoundedSpec : ChangeSpec := { name := "fnExactRounded", fn := fun _ => fun
  | [d] => { results := [.lit (.bool true)], args := [d] }
  | _ => none }
def fnExactRoundedRow : OpenClaim := { program := "ytfdohanncodagaa", sum := "c8f8f01855b825b392dbeb10d9c8475ddb7f5ebf0b3539443de3fd2433819210", func := "loop.example/g01613/laws.FnExactRounded", spec := "fnExactRounded", apart := false }
def FnExactRoundedSaid : Prop := fnExactRoundedRow.holds Try.pinned (OpenSpec.ofChange fnExactRoundedSpec)

/-- ITS FALSE NEIGHBOUR: 'it returns false'. Refute it at one input. -/
def fnExactRoundedWrong : ChangeSpec := { name := "fnExactRounded", fn := fun _ => fun
  | [d] => { results := [.lit (.bool false)], args := [d] }
  | _ => none }
def FnExactRoundedWrongFalsely : Prop := fnExactRoundedRow.holds Try.pinned (OpenSpec.ofChange fnExactRoundedWrong)

/- THE SECOND FORM. 'bulk': how many values and letters a reading holds, each counted each time it is reached (what is shared counts as often as it is met; a slice's spare places count too). A statement '..UptoSaid' is the law's where the arguments, and the package variables that the reading takes, are together of bulk at most 1048576: NARROWER than '..Said'. Prove '..Said' where nothing that the law and all that it calls make is longer than what came in: it says more and counts as full. Else prove '..UptoSaid'. A law counts once. -/
mutual
def uptoBulk {H : Type} : DataW H → Nat
  | .lit (.string bytes) => bytes.length + 1
  | .lit _ => 1
  | .nil => 1
  | .ptr d => uptoBulk d + 1
  | .slice elems spare => uptoBulkAll elems + uptoBulkAll spare + 1
  | .agg parts => uptoBulkAll parts + 1
  | .iface _ d => uptoBulk d + 1
  | .map entries => uptoBulkEntries entries + 1
  | .held _ => 1
def uptoBulkAll {H : Type} : List (DataW H) → Nat
  | [] => 0
  | d :: r => uptoBulk d + uptoBulkAll r
def uptoBulkEntries {H : Type} : List (Lit × DataW H) → Nat
  | [] => 0
  | x :: r => uptoBulkEntry x + uptoBulkEntries r
def uptoBulkEntry {H : Type} : Lit × DataW H → Nat
  | (.string bytes, d) => bytes.length + uptoBulk d + 1
  | (_, d) => uptoBulk d + 1
 end
def uptoSmall : (H : Type) → List (DataW H) → Bool := fun _ ds => decide (uptoBulkAll ds ≤ 1048576)
def OpenSpec.upto (s : _root_.Go.ChangeSpec) : _root_.Go.OpenSpec := { _root_.Go.OpenSpec.ofChange s with cond := some uptoSmall }

/-- 'laws.FnExactForward4', WHERE WHAT IT READS IS OF BULK AT MOST 1048576: true; the input reads as it did. -/
def fnExactForward4UptoRow : OpenClaim := { program := "ytfdohanncodagaa", sum := "c8f8f01855b825b392dbeb10d9c8475ddb7f5ebf0b3539443de3fd2433819210", func := "loop.example/g01613/laws.FnExactForward4", spec := "fnExactForward4", apart := false, narrowed := true }
def FnExactForward4UptoSaid : Prop := fnExactForward4UptoRow.holds Try.pinned (OpenSpec.upto fnExactForward4Spec)

/-- 'laws.FnExactInverse4', WHERE WHAT IT READS IS OF BULK AT MOST 1048576: true; the input reads as it did. -/
def fnExactInverse4UptoRow : OpenClaim := { program := "ytfdohanncodagaa", sum := "c8f8f01855b825b392dbeb10d9c8475ddb7f5ebf0b3539443de3fd2433819210", func := "loop.example/g01613/laws.FnExactInverse4", spec := "fnExactInverse4", apart := false, narrowed := true }
def FnExactInverse4UptoSaid : Prop := fnExactInverse4UptoRow.holds Try.pinned (OpenSpec.upto fnExactInverse4Spec)

/-- 'laws.FnExactForward8', WHERE WHAT IT READS IS OF BULK AT MOST 1048576: true; the input reads as it did. -/
def fnExactForward8UptoRow : OpenClaim := { program := "ytfdohanncodagaa", sum := "c8f8f01855b825b392dbeb10d9c8475ddb7f5ebf0b3539443de3fd2433819210", func := "loop.example/g01613/laws.FnExactForward8", spec := "fnExactForward8", apart := false, narrowed := true }
def FnExactForward8UptoSaid : Prop := fnExactForward8UptoRow.holds Try.pinned (OpenSpec.upto fnExactForward8Spec)

/-- 'laws.FnExactInverse8', WHERE WHAT IT READS IS OF BULK AT MOST 1048576: true; the input reads as it did. -/
def fnExactInverse8UptoRow : OpenClaim := { program := "ytfdohanncodagaa", sum := "c8f8f01855b825b392dbeb10d9c8475ddb7f5ebf0b3539443de3fd2433819210", func := "loop.example/g01613/laws.FnExactInverse8", spec := "fnExactInverse8", apart := false, narrowed := true }
def FnExactInverse8UptoSaid : Prop := fnExactInverse8UptoRow.holds Try.pinned (OpenSpec.upto fnExactInverse8Spec)

/-- 'laws.FnExactRounded', WHERE WHAT IT READS IS OF BULK AT MOST 1048576: true; the input reads as it did. -/
def fnExactRoundedUptoRow : OpenClaim := { program := "ytfdohanncodagaa", sum := "c8f8f01855b825b392dbeb10d9c8475ddb7f5ebf0b3539443de3fd2433819210", func := "loop.example/g01613/laws.FnExactRounded", spec := "fnExactRounded", apart := false, narrowed := true }
def FnExactRoundedUptoSaid : Prop := fnExactRoundedUptoRow.holds Try.pinned (OpenSpec.upto fnExactRoundedSpec)

end Rows
end Go.Proofs.Ytfdohanncodagaa
