/-
  No cell of these rows narrows 'for every input' (looked for: loops, veiled, ifaces, maps, wideKeys, modest, calm, conditions, laid).
  DERIVED. THE GIVEN ROWS OF THIS SEAT. 9 by the template 'for every input the law returns true; each argument reads behind the call as it read before'; 0 by the template 'total and deterministic' (their statements: YtcmijednpnabmaaTotals.lean).
  GIVEN WITH THE SEED: the statements are not yours to turn. If you find one false, say at which input.
  Laid BY PROGRAM, IN A SANDBOX (cutbox-rows.mjs): the forced cells as the released guide's own fill.sh prints them over the translation aad6e408c64d2f2c… (all of the seat's roots in one cut). By AI agents, Wed Nov 11 2026. No macro, syntax, notation, axiom, sorry.
-/
import Derived.Test.YtcmijednpnabmaaChecked
import GoSem.Claim
import GoSem.ClaimJoined
import GoSem.ClaimMapViews
import Derived.JoinedTies
import Derived.KernelRfl
namespace Go.Proofs.Ytcmijednpnabmaa
/- THE CELL 'sum', in the pinned program and in every row, IS THE sha256 OF THE DUMP (.gsa) THAT YtcmijednpnabmaaProg.lean LOADS. Nothing in Lean hashes anything: it is a label: what it is worth is what the hold of that sum in a sandbox is worth. -/
noncomputable def Try.pinned : Pinned := { name := "ytcmijednpnabmaa", sum := "aad6e408c64d2f2c781786d9fdfb03254cfbb5296b37256aa59192a6a7cfeb97", checked := Try.checked }
namespace Rows
def none {H : Type} : Left H := { results := [], args := [] }

/-- 'laws.FnExactLift4': WHATEVER THE INPUT: true; the input reads as it did. -/
def fnExactLift4Spec : ChangeSpec := { name := "fnExactLift4", fn := fun _ => fun
  | [d] => { results := [.lit (.bool true)], args := [d] }
  | _ => none }
def fnExactLift4Row : OpenClaim := { program := "ytcmijednpnabmaa", sum := "aad6e408c64d2f2c781786d9fdfb03254cfbb5296b37256aa59192a6a7cfeb97", func := "loop.example/g01613/laws.FnExactLift4", spec := "fnExactLift4", unfollowed := true, recurses := true, apart := false }
def FnExactLift4Said : Prop := fnExactLift4Row.holds Try.pinned (OpenSpec.ofChange fnExactLift4Spec)

/-- ITS FALSE NEIGHBOUR: 'it returns false'. Refute it at one input. -/
def fnExactLift4Wrong : ChangeSpec := { name := "fnExactLift4", fn := fun _ => fun
  | [d] => { results := [.lit (.bool false)], args := [d] }
  | _ => none }
def FnExactLift4WrongFalsely : Prop := fnExactLift4Row.holds Try.pinned (OpenSpec.ofChange fnExactLift4Wrong)

/-- 'laws.FnExactLift8': WHATEVER THE INPUT: true; the input reads as it did. -/
def fnExactLift8Spec : ChangeSpec := { name := "fnExactLift8", fn := fun _ => fun
  | [d] => { results := [.lit (.bool true)], args := [d] }
  | _ => none }
def fnExactLift8Row : OpenClaim := { program := "ytcmijednpnabmaa", sum := "aad6e408c64d2f2c781786d9fdfb03254cfbb5296b37256aa59192a6a7cfeb97", func := "loop.example/g01613/laws.FnExactLift8", spec := "fnExactLift8", unfollowed := true, recurses := true, apart := false }
def FnExactLift8Said : Prop := fnExactLift8Row.holds Try.pinned (OpenSpec.ofChange fnExactLift8Spec)

/-- ITS FALSE NEIGHBOUR: 'it returns false'. Refute it at one input. -/
def fnExactLift8Wrong : ChangeSpec := { name := "fnExactLift8", fn := fun _ => fun
  | [d] => { results := [.lit (.bool false)], args := [d] }
  | _ => none }
def FnExactLift8WrongFalsely : Prop := fnExactLift8Row.holds Try.pinned (OpenSpec.ofChange fnExactLift8Wrong)

/-- 'laws.FnExactColumns': WHATEVER THE INPUT: true; the input reads as it did. -/
def fnExactColumnsSpec : ChangeSpec := { name := "fnExactColumns", fn := fun _ => fun
  | [d] => { results := [.lit (.bool true)], args := [d] }
  | _ => none }
def fnExactColumnsRow : OpenClaim := { program := "ytcmijednpnabmaa", sum := "aad6e408c64d2f2c781786d9fdfb03254cfbb5296b37256aa59192a6a7cfeb97", func := "loop.example/g01613/laws.FnExactColumns", spec := "fnExactColumns", apart := false }
def FnExactColumnsSaid : Prop := fnExactColumnsRow.holds Try.pinned (OpenSpec.ofChange fnExactColumnsSpec)

/-- ITS FALSE NEIGHBOUR: 'it returns false'. Refute it at one input. -/
def fnExactColumnsWrong : ChangeSpec := { name := "fnExactColumns", fn := fun _ => fun
  | [d] => { results := [.lit (.bool false)], args := [d] }
  | _ => none }
def FnExactColumnsWrongFalsely : Prop := fnExactColumnsRow.holds Try.pinned (OpenSpec.ofChange fnExactColumnsWrong)

/-- 'laws.FnExactFast4': WHATEVER THE INPUT: true; the input reads as it did. -/
def fnExactFast4Spec : ChangeSpec := { name := "fnExactFast4", fn := fun _ => fun
  | [d] => { results := [.lit (.bool true)], args := [d] }
  | _ => none }
def fnExactFast4Row : OpenClaim := { program := "ytcmijednpnabmaa", sum := "aad6e408c64d2f2c781786d9fdfb03254cfbb5296b37256aa59192a6a7cfeb97", func := "loop.example/g01613/laws.FnExactFast4", spec := "fnExactFast4", unfollowed := true, recurses := true, apart := false }
def FnExactFast4Said : Prop := fnExactFast4Row.holds Try.pinned (OpenSpec.ofChange fnExactFast4Spec)

/-- ITS FALSE NEIGHBOUR: 'it returns false'. Refute it at one input. -/
def fnExactFast4Wrong : ChangeSpec := { name := "fnExactFast4", fn := fun _ => fun
  | [d] => { results := [.lit (.bool false)], args := [d] }
  | _ => none }
def FnExactFast4WrongFalsely : Prop := fnExactFast4Row.holds Try.pinned (OpenSpec.ofChange fnExactFast4Wrong)

/-- 'laws.FnExactFast8': WHATEVER THE INPUT: true; the input reads as it did. -/
def fnExactFast8Spec : ChangeSpec := { name := "fnExactFast8", fn := fun _ => fun
  | [d] => { results := [.lit (.bool true)], args := [d] }
  | _ => none }
def fnExactFast8Row : OpenClaim := { program := "ytcmijednpnabmaa", sum := "aad6e408c64d2f2c781786d9fdfb03254cfbb5296b37256aa59192a6a7cfeb97", func := "loop.example/g01613/laws.FnExactFast8", spec := "fnExactFast8", unfollowed := true, recurses := true, apart := false }
def FnExactFast8Said : Prop := fnExactFast8Row.holds Try.pinned (OpenSpec.ofChange fnExactFast8Spec)

/-- ITS FALSE NEIGHBOUR: 'it returns false'. Refute it at one input. -/
def fnExactFast8Wrong : ChangeSpec := { name := "fnExactFast8", fn := fun _ => fun
  | [d] => { results := [.lit (.bool false)], args := [d] }
  | _ => none }
def FnExactFast8WrongFalsely : Prop := fnExactFast8Row.holds Try.pinned (OpenSpec.ofChange fnExactFast8Wrong)

/-- 'laws.FnButterflies': WHATEVER THE INPUT: true; the input reads as it did. -/
def fnButterfliesSpec : ChangeSpec := { name := "fnButterflies", fn := fun _ => fun
  | [d] => { results := [.lit (.bool true)], args := [d] }
  | _ => none }
def fnButterfliesRow : OpenClaim := { program := "ytcmijednpnabmaa", sum := "aad6e408c64d2f2c781786d9fdfb03254cfbb5296b37256aa59192a6a7cfeb97", func := "loop.example/g01613/laws.FnButterflies", spec := "fnButterflies", unfollowed := true, recurses := true, apart := false }
def FnButterfliesSaid : Prop := fnButterfliesRow.holds Try.pinned (OpenSpec.ofChange fnButterfliesSpec)

/-- ITS FALSE NEIGHBOUR: 'it returns false'. Refute it at one input. -/
def fnButterfliesWrong : ChangeSpec := { name := "fnButterflies", fn := fun _ => fun
  | [d] => { results := [.lit (.bool false)], args := [d] }
  | _ => none }
def FnButterfliesWrongFalsely : Prop := fnButterfliesRow.holds Try.pinned (OpenSpec.ofChange fnButterfliesWrong)

/-- 'laws.FnLifts': WHATEVER THE INPUT: true; the input reads as it did. -/
def fnLiftsSpec : ChangeSpec := { name := "fnLifts", fn := fun _ => fun
  | [d] => { results := [.lit (.bool true)], args := [d] }
  | _ => none }
def fnLiftsRow : OpenClaim := { program := "ytcmijednpnabmaa", sum := "aad6e408c64d2f2c781786d9fdfb03254cfbb5296b37256aa59192a6a7cfeb97", func := "loop.example/g01613/laws.FnLifts", spec := "fnLifts", unfollowed := true, recurses := true, apart := false }
def FnLiftsSaid : Prop := fnLiftsRow.holds Try.pinned (OpenSpec.ofChange fnLiftsSpec)

/-- ITS FALSE NEIGHBOUR: 'it returns false'. Refute it at one input. -/
def fnLiftsWrong : ChangeSpec := { name := "fnLifts", fn := fun _ => fun
  | [d] => { results := [.lit (.bool false)], args := [d] }
  | _ => none }
def FnLiftsWrongFalsely : Prop := fnLiftsRow.holds Try.pinned (OpenSpec.ofChange fnLiftsWrong)

/-- 'laws.FnLinear': WHATEVER THE INPUT: true; the input reads as it did. -/
def fnLinearSpec : ChangeSpec := { name := "fnLinear", fn := fun _ => fun
  | [d] => { results := [.lit (.bool true)], args := [d] }
  | _ => none }
def fnLinearRow : OpenClaim := { program := "ytcmijednpnabmaa", sum := "aad6e408c64d2f2c781786d9fdfb03254cfbb5296b37256aa59192a6a7cfeb97", func := "loop.example/g01613/laws.FnLinear", spec := "fnLinear", unfollowed := true, recurses := true, apart := false }
def FnLinearSaid : Prop := fnLinearRow.holds Try.pinned (OpenSpec.ofChange fnLinearSpec)

/-- ITS FALSE NEIGHBOUR: 'it returns false'. Refute it at one input. -/
def fnLinearWrong : ChangeSpec := { name := "fnLinear", fn := fun _ => fun
  | [d] => { results := [.lit (.bool false)], args := [d] }
  | _ => none }
def FnLinearWrongFalsely : Prop := fnLinearRow.holds Try.pinned (OpenSpec.ofChange fnLinearWrong)

/-- 'laws.FnEnergy': WHATEVER THE INPUT: true; the input reads as it did. -/
def fnEnergySpec : ChangeSpec := { name := "fnEnergy", fn := fun _ => fun
  | [d] => { results := [.lit (.bool true)], args := [d] }
  | _ => none }
def fnEnergyRow : OpenClaim := { program := "ytcmijednpnabmaa", sum := "aad6e408c64d2f2c781786d9fdfb03254cfbb5296b37256aa59192a6a7cfeb97", func := "loop.example/g01613/laws.FnEnergy", spec := "fnEnergy", unfollowed := true, recurses := true, apart := false }
def FnEnergySaid : Prop := fnEnergyRow.holds Try.pinned (OpenSpec.ofChange fnEnergySpec)

/-- ITS FALSE NEIGHBOUR: 'it returns false'. Refute it at one input. -/
def fnEnergyWrong : ChangeSpec := { name := "fnEnergy", fn := fun _ => fun
  | [d] => { results := [.lit (.bool false)], args := [d] }
  | _ => none }
def FnEnergyWrongFalsely : Prop := fnEnergyRow.holds Try.pinned (OpenSpec.ofChange fnEnergyWrong)

/- THE SECOND FORM. 'bulk': how many values and letters a reading holds, each counted each time it is reached (what is shared counts as often as it is met; a slice's spare places count too). A statement '..UptoSaid' is the law's where the arguments, and the package variables that the reading takes, are together of bulk at most 1048576: NARROWER than '..Said'. Prove '..Said' where nothing that the law and all that it calls make is longer than what came in: it says more and counts as full. Else prove '..UptoSaid'. A law counts once. -/
mutual
def uptoBulk {H : Type} : DataW H → Nat
  | .lit (.string bytes) => bytes.length + 1
  | .lit _ => 1
  | .nil => 1
  | .ptr d => uptoBulk d + 1
  | .slice elems spare => uptoBulkAll elems + uptoBulkAll spare + 1
  | .agg parts => uptoBulkAll parts + 1
  | .iface _ d => uptoBulk d + 1
  | .map entries => uptoBulkEntries entries + 1
  | .held _ => 1
def uptoBulkAll {H : Type} : List (DataW H) → Nat
  | [] => 0
  | d :: r => uptoBulk d + uptoBulkAll r
def uptoBulkEntries {H : Type} : List (Lit × DataW H) → Nat
  | [] => 0
  | x :: r => uptoBulkEntry x + uptoBulkEntries r
def uptoBulkEntry {H : Type} : Lit × DataW H → Nat
  | (.string bytes, d) => bytes.length + uptoBulk d + 1
  | (_, d) => uptoBulk d + 1
 end
def uptoSmall : (H : Type) → List (DataW H) → Bool := fun _ ds => decide (uptoBulkAll ds ≤ 1048576)
def OpenSpec.upto (s : _root_.Go.ChangeSpec) : _root_.Go.OpenSpec := { _root_.Go.OpenSpec.ofChange s with cond := some uptoSmall }

/-- 'laws.FnExactLift4', WHERE WHAT IT READS IS OF BULK AT MOST 1048576: true; the input reads as it did. -/
def fnExactLift4UptoRow : OpenClaim := { program := "ytcmijednpnabmaa", sum := "aad6e408c64d2f2c781786d9fdfb03254cfbb5296b37256aa59192a6a7cfeb97", func := "loop.example/g01613/laws.FnExactLift4", spec := "fnExactLift4", unfollowed := true, recurses := true, apart := false, narrowed := true }
def FnExactLift4UptoSaid : Prop := fnExactLift4UptoRow.holds Try.pinned (OpenSpec.upto fnExactLift4Spec)

/-- 'laws.FnExactLift8', WHERE WHAT IT READS IS OF BULK AT MOST 1048576: true; the input reads as it did. -/
def fnExactLift8UptoRow : OpenClaim := { program := "ytcmijednpnabmaa", sum := "aad6e408c64d2f2c781786d9fdfb03254cfbb5296b37256aa59192a6a7cfeb97", func := "loop.example/g01613/laws.FnExactLift8", spec := "fnExactLift8", unfollowed := true, recurses := true, apart := false, narrowed := true }
def FnExactLift8UptoSaid : Prop := fnExactLift8UptoRow.holds Try.pinned (OpenSpec.upto fnExactLift8Spec)

/-- 'laws.FnExactColumns', WHERE WHAT IT READS IS OF BULK AT MOST 1048576: true; the input reads as it did. -/
def fnExactColumnsUptoRow : OpenClaim := { program := "ytcmijednpnabmaa", sum := "aad6e408c64d2f2c781786d9fdfb03254cfbb5296b37256aa59192a6a7cfeb97", func := "loop.example/g01613/laws.FnExactColumns", spec := "fnExactColumns", apart := false, narrowed := true }
def FnExactColumnsUptoSaid : Prop := fnExactColumnsUptoRow.holds Try.pinned (OpenSpec.upto fnExactColumnsSpec)

/-- 'laws.FnExactFast4', WHERE WHAT IT READS IS OF BULK AT MOST 1048576: true; the input reads as it did. -/
def fnExactFast4UptoRow : OpenClaim := { program := "ytcmijednpnabmaa", sum := "aad6e408c64d2f2c781786d9fdfb03254cfbb5296b37256aa59192a6a7cfeb97", func := "loop.example/g01613/laws.FnExactFast4", spec := "fnExactFast4", unfollowed := true, recurses := true, apart := false, narrowed := true }
def FnExactFast4UptoSaid : Prop := fnExactFast4UptoRow.holds Try.pinned (OpenSpec.upto fnExactFast4Spec)

/-- 'laws.FnExactFast8', WHERE WHAT IT READS IS OF BULK AT MOST 1048576: true; the input reads as it did. -/
def fnExactFast8UptoRow : OpenClaim := { program := "ytcmijednpnabmaa", sum := "aad6e408c64d2f2c781786d9fdfb03254cfbb5296b37256aa59192a6a7cfeb97", func := "loop.example/g01613/laws.FnExactFast8", spec := "fnExactFast8", unfollowed := true, recurses := true, apart := false, narrowed := true }
def FnExactFast8UptoSaid : Prop := fnExactFast8UptoRow.holds Try.pinned (OpenSpec.upto fnExactFast8Spec)

/-- 'laws.FnButterflies', WHERE WHAT IT READS IS OF BULK AT MOST 1048576: true; the input reads as it did. -/
def fnButterfliesUptoRow : OpenClaim := { program := "ytcmijednpnabmaa", sum := "aad6e408c64d2f2c781786d9fdfb03254cfbb5296b37256aa59192a6a7cfeb97", func := "loop.example/g01613/laws.FnButterflies", spec := "fnButterflies", unfollowed := true, recurses := true, apart := false, narrowed := true }
def FnButterfliesUptoSaid : Prop := fnButterfliesUptoRow.holds Try.pinned (OpenSpec.upto fnButterfliesSpec)

/-- 'laws.FnLifts', WHERE WHAT IT READS IS OF BULK AT MOST 1048576: true; the input reads as it did. -/
def fnLiftsUptoRow : OpenClaim := { program := "ytcmijednpnabmaa", sum := "aad6e408c64d2f2c781786d9fdfb03254cfbb5296b37256aa59192a6a7cfeb97", func := "loop.example/g01613/laws.FnLifts", spec := "fnLifts", unfollowed := true, recurses := true, apart := false, narrowed := true }
def FnLiftsUptoSaid : Prop := fnLiftsUptoRow.holds Try.pinned (OpenSpec.upto fnLiftsSpec)

/-- 'laws.FnLinear', WHERE WHAT IT READS IS OF BULK AT MOST 1048576: true; the input reads as it did. -/
def fnLinearUptoRow : OpenClaim := { program := "ytcmijednpnabmaa", sum := "aad6e408c64d2f2c781786d9fdfb03254cfbb5296b37256aa59192a6a7cfeb97", func := "loop.example/g01613/laws.FnLinear", spec := "fnLinear", unfollowed := true, recurses := true, apart := false, narrowed := true }
def FnLinearUptoSaid : Prop := fnLinearUptoRow.holds Try.pinned (OpenSpec.upto fnLinearSpec)

/-- 'laws.FnEnergy', WHERE WHAT IT READS IS OF BULK AT MOST 1048576: true; the input reads as it did. -/
def fnEnergyUptoRow : OpenClaim := { program := "ytcmijednpnabmaa", sum := "aad6e408c64d2f2c781786d9fdfb03254cfbb5296b37256aa59192a6a7cfeb97", func := "loop.example/g01613/laws.FnEnergy", spec := "fnEnergy", unfollowed := true, recurses := true, apart := false, narrowed := true }
def FnEnergyUptoSaid : Prop := fnEnergyUptoRow.holds Try.pinned (OpenSpec.upto fnEnergySpec)

end Rows
end Go.Proofs.Ytcmijednpnabmaa
