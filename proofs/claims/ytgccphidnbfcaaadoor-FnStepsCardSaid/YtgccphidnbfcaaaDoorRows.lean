/-
  NARROWER THAN 'FOR EVERY INPUT', by the rows' own cells (each row's printed sentence says how): FnSteps: laid · FnExactStepOf: laid · FnExactScaled: laid · FnExactQuantized: laid.
  DERIVED. THE GIVEN ROWS OF THIS SEAT. 4 by the template 'for every input the law returns true; each argument reads behind the call as it read before'; 0 by the template 'total and deterministic' (their statements: YtgccphidnbfcaaaDoorTotals.lean).
  GIVEN WITH THE SEED: the statements are not yours to turn. If you find one false, say at which input.
  Laid BY PROGRAM, IN A SANDBOX (cutbox-rows.mjs): the forced cells as the released guide's own fill.sh prints them over the translation 61c5f61b0f5dd0d4… (all of the seat's roots in one cut). By AI agents, Wed Nov 11 2026. No macro, syntax, notation, axiom, sorry.
-/
import Derived.Test.YtgccphidnbfcaaaDoorChecked
import GoSem.Claim
import GoSem.ClaimJoined
import GoSem.ClaimMapViews
import Derived.JoinedTies
import Derived.KernelRfl
namespace Go.Proofs.YtgccphidnbfcaaaDoor
/- THE CELL 'sum', in the pinned program and in every row, IS THE sha256 OF THE DUMP (.gsa) THAT YtgccphidnbfcaaaDoorProg.lean LOADS. Nothing in Lean hashes anything: it is a label: what it is worth is what the hold of that sum in a sandbox is worth. -/
noncomputable def Tryd.pinned : Pinned := { name := "ytgccphidnbfcaaadoor", sum := "61c5f61b0f5dd0d4fa7df098affb94da18b131518a75b033b852831170bd8ec3", checked := Tryd.checked }
namespace Rows
def none {H : Type} : Left H := { results := [], args := [] }

/- WHAT THE LISTED PACKAGE-LEVEL VARIABLES READ AS WHEN THE CALL BEGINS. Each datum BY PROGRAM (the guide's laid-datum.mjs) off the statement by which the dump's own 'gosem.cut.vars' lays the variable. In a bare row this is a premise. The card (YtgccphidnbfcaaaDoorCards.lean) ties it to the program's text. -/
def laid_loop_example_g01613_impl_baseSteps {H : Type} : DataW H := .agg [.lit (.int .i64 8), .lit (.int .i64 9), .lit (.int .i64 10), .lit (.int .i64 11), .lit (.int .i64 13), .lit (.int .i64 14)]

/-- 'laws.FnSteps': WHATEVER THE INPUT: true; the input reads as it did. -/
def fnStepsSpec : ChangeSpec := { name := "fnSteps", vars := ["loop.example/g01613/impl.baseSteps"], fn := fun _ => fun
  | [d, g1] => { results := [.lit (.bool true)], args := [d], vars := [g1] }
  | _ => none }
def fnStepsRow : OpenClaim := { program := "ytgccphidnbfcaaadoor", sum := "61c5f61b0f5dd0d4fa7df098affb94da18b131518a75b033b852831170bd8ec3", func := "loop.example/g01613/laws.FnSteps", spec := "fnSteps", named := ["loop.example/g01613/impl.baseSteps"], apart := false, laid := [("loop.example/g01613/impl.baseSteps", laid_loop_example_g01613_impl_baseSteps)] }
def FnStepsSaid : Prop := fnStepsRow.holds Tryd.pinned (OpenSpec.ofChange fnStepsSpec)

/-- ITS FALSE NEIGHBOUR: 'it returns false'. Refute it at one input. -/
def fnStepsWrong : ChangeSpec := { name := "fnSteps", vars := ["loop.example/g01613/impl.baseSteps"], fn := fun _ => fun
  | [d, g1] => { results := [.lit (.bool false)], args := [d], vars := [g1] }
  | _ => none }
def FnStepsWrongFalsely : Prop := fnStepsRow.holds Tryd.pinned (OpenSpec.ofChange fnStepsWrong)

/-- 'laws.FnExactStepOf': WHATEVER THE INPUT: true; the input reads as it did. -/
def fnExactStepOfSpec : ChangeSpec := { name := "fnExactStepOf", vars := ["loop.example/g01613/impl.baseSteps"], fn := fun _ => fun
  | [d, g1] => { results := [.lit (.bool true)], args := [d], vars := [g1] }
  | _ => none }
def fnExactStepOfRow : OpenClaim := { program := "ytgccphidnbfcaaadoor", sum := "61c5f61b0f5dd0d4fa7df098affb94da18b131518a75b033b852831170bd8ec3", func := "loop.example/g01613/laws.FnExactStepOf", spec := "fnExactStepOf", named := ["loop.example/g01613/impl.baseSteps"], apart := false, laid := [("loop.example/g01613/impl.baseSteps", laid_loop_example_g01613_impl_baseSteps)] }
def FnExactStepOfSaid : Prop := fnExactStepOfRow.holds Tryd.pinned (OpenSpec.ofChange fnExactStepOfSpec)

/-- ITS FALSE NEIGHBOUR: 'it returns false'. Refute it at one input. -/
def fnExactStepOfWrong : ChangeSpec := { name := "fnExactStepOf", vars := ["loop.example/g01613/impl.baseSteps"], fn := fun _ => fun
  | [d, g1] => { results := [.lit (.bool false)], args := [d], vars := [g1] }
  | _ => none }
def FnExactStepOfWrongFalsely : Prop := fnExactStepOfRow.holds Tryd.pinned (OpenSpec.ofChange fnExactStepOfWrong)

/-- 'laws.FnExactScaled': WHATEVER THE INPUT: true; the input reads as it did. -/
def fnExactScaledSpec : ChangeSpec := { name := "fnExactScaled", vars := ["loop.example/g01613/impl.baseSteps"], fn := fun _ => fun
  | [d1, d2, g1] => { results := [.lit (.bool true)], args := [d1, d2], vars := [g1] }
  | _ => none }
def fnExactScaledRow : OpenClaim := { program := "ytgccphidnbfcaaadoor", sum := "61c5f61b0f5dd0d4fa7df098affb94da18b131518a75b033b852831170bd8ec3", func := "loop.example/g01613/laws.FnExactScaled", spec := "fnExactScaled", named := ["loop.example/g01613/impl.baseSteps"], apart := false, laid := [("loop.example/g01613/impl.baseSteps", laid_loop_example_g01613_impl_baseSteps)] }
def FnExactScaledSaid : Prop := fnExactScaledRow.holds Tryd.pinned (OpenSpec.ofChange fnExactScaledSpec)

/-- ITS FALSE NEIGHBOUR: 'it returns false'. Refute it at one input. -/
def fnExactScaledWrong : ChangeSpec := { name := "fnExactScaled", vars := ["loop.example/g01613/impl.baseSteps"], fn := fun _ => fun
  | [d1, d2, g1] => { results := [.lit (.bool false)], args := [d1, d2], vars := [g1] }
  | _ => none }
def FnExactScaledWrongFalsely : Prop := fnExactScaledRow.holds Tryd.pinned (OpenSpec.ofChange fnExactScaledWrong)

/-- 'laws.FnExactQuantized': WHATEVER THE INPUT: true; the input reads as it did. -/
def fnExactQuantizedSpec : ChangeSpec := { name := "fnExactQuantized", vars := ["loop.example/g01613/impl.baseSteps"], fn := fun _ => fun
  | [d1, d2, g1] => { results := [.lit (.bool true)], args := [d1, d2], vars := [g1] }
  | _ => none }
def fnExactQuantizedRow : OpenClaim := { program := "ytgccphidnbfcaaadoor", sum := "61c5f61b0f5dd0d4fa7df098affb94da18b131518a75b033b852831170bd8ec3", func := "loop.example/g01613/laws.FnExactQuantized", spec := "fnExactQuantized", named := ["loop.example/g01613/impl.baseSteps"], apart := false, laid := [("loop.example/g01613/impl.baseSteps", laid_loop_example_g01613_impl_baseSteps)] }
def FnExactQuantizedSaid : Prop := fnExactQuantizedRow.holds Tryd.pinned (OpenSpec.ofChange fnExactQuantizedSpec)

/-- ITS FALSE NEIGHBOUR: 'it returns false'. Refute it at one input. -/
def fnExactQuantizedWrong : ChangeSpec := { name := "fnExactQuantized", vars := ["loop.example/g01613/impl.baseSteps"], fn := fun _ => fun
  | [d1, d2, g1] => { results := [.lit (.bool false)], args := [d1, d2], vars := [g1] }
  | _ => none }
def FnExactQuantizedWrongFalsely : Prop := fnExactQuantizedRow.holds Tryd.pinned (OpenSpec.ofChange fnExactQuantizedWrong)

/- THE SECOND FORM. 'bulk': how many values and letters a reading holds, each counted each time it is reached (what is shared counts as often as it is met; a slice's spare places count too). A statement '..UptoSaid' is the law's where the arguments, and the package variables that the reading takes, are together of bulk at most 1048576: NARROWER than '..Said'. Prove '..Said' where nothing that the law and all that it calls make is longer than what came in: it says more and counts as full. Else prove '..UptoSaid'. A law counts once. -/
mutual
def uptoBulk {H : Type} : DataW H → Nat
  | .lit (.string bytes) => bytes.length + 1
  | .lit _ => 1
  | .nil => 1
  | .ptr d => uptoBulk d + 1
  | .slice elems spare => uptoBulkAll elems + uptoBulkAll spare + 1
  | .agg parts => uptoBulkAll parts + 1
  | .iface _ d => uptoBulk d + 1
  | .map entries => uptoBulkEntries entries + 1
  | .held _ => 1
def uptoBulkAll {H : Type} : List (DataW H) → Nat
  | [] => 0
  | d :: r => uptoBulk d + uptoBulkAll r
def uptoBulkEntries {H : Type} : List (Lit × DataW H) → Nat
  | [] => 0
  | x :: r => uptoBulkEntry x + uptoBulkEntries r
def uptoBulkEntry {H : Type} : Lit × DataW H → Nat
  | (.string bytes, d) => bytes.length + uptoBulk d + 1
  | (_, d) => uptoBulk d + 1
 end
def uptoSmall : (H : Type) → List (DataW H) → Bool := fun _ ds => decide (uptoBulkAll ds ≤ 1048576)
def OpenSpec.upto (s : _root_.Go.ChangeSpec) : _root_.Go.OpenSpec := { _root_.Go.OpenSpec.ofChange s with cond := some uptoSmall }

/-- 'laws.FnSteps', WHERE WHAT IT READS IS OF BULK AT MOST 1048576: true; the input reads as it did. -/
def fnStepsUptoRow : OpenClaim := { program := "ytgccphidnbfcaaadoor", sum := "61c5f61b0f5dd0d4fa7df098affb94da18b131518a75b033b852831170bd8ec3", func := "loop.example/g01613/laws.FnSteps", spec := "fnSteps", named := ["loop.example/g01613/impl.baseSteps"], apart := false, laid := [("loop.example/g01613/impl.baseSteps", laid_loop_example_g01613_impl_baseSteps)], narrowed := true }
def FnStepsUptoSaid : Prop := fnStepsUptoRow.holds Tryd.pinned (OpenSpec.upto fnStepsSpec)

/-- 'laws.FnExactStepOf', WHERE WHAT IT READS IS OF BULK AT MOST 1048576: true; the input reads as it did. -/
def fnExactStepOfUptoRow : OpenClaim := { program := "ytgccphidnbfcaaadoor", sum := "61c5f61b0f5dd0d4fa7df098affb94da18b131518a75b033b852831170bd8ec3", func := "loop.example/g01613/laws.FnExactStepOf", spec := "fnExactStepOf", named := ["loop.example/g01613/impl.baseSteps"], apart := false, laid := [("loop.example/g01613/impl.baseSteps", laid_loop_example_g01613_impl_baseSteps)], narrowed := true }
def FnExactStepOfUptoSaid : Prop := fnExactStepOfUptoRow.holds Tryd.pinned (OpenSpec.upto fnExactStepOfSpec)

/-- 'laws.FnExactScaled', WHERE WHAT IT READS IS OF BULK AT MOST 1048576: true; the input reads as it did. -/
def fnExactScaledUptoRow : OpenClaim := { program := "ytgccphidnbfcaaadoor", sum := "61c5f61b0f5dd0d4fa7df098affb94da18b131518a75b033b852831170bd8ec3", func := "loop.example/g01613/laws.FnExactScaled", spec := "fnExactScaled", named := ["loop.example/g01613/impl.baseSteps"], apart := false, laid := [("loop.example/g01613/impl.baseSteps", laid_loop_example_g01613_impl_baseSteps)], narrowed := true }
def FnExactScaledUptoSaid : Prop := fnExactScaledUptoRow.holds Tryd.pinned (OpenSpec.upto fnExactScaledSpec)

/-- 'laws.FnExactQuantized', WHERE WHAT IT READS IS OF BULK AT MOST 1048576: true; the input reads as it did. -/
def fnExactQuantizedUptoRow : OpenClaim := { program := "ytgccphidnbfcaaadoor", sum := "61c5f61b0f5dd0d4fa7df098affb94da18b131518a75b033b852831170bd8ec3", func := "loop.example/g01613/laws.FnExactQuantized", spec := "fnExactQuantized", named := ["loop.example/g01613/impl.baseSteps"], apart := false, laid := [("loop.example/g01613/impl.baseSteps", laid_loop_example_g01613_impl_baseSteps)], narrowed := true }
def FnExactQuantizedUptoSaid : Prop := fnExactQuantizedUptoRow.holds Tryd.pinned (OpenSpec.upto fnExactQuantizedSpec)

end Rows
end Go.Proofs.YtgccphidnbfcaaaDoor
