/-
  No cell of these rows narrows 'for every input' (looked for: loops, veiled, ifaces, maps, wideKeys, modest, calm, conditions, laid).
  DERIVED. THE GIVEN ROWS OF THIS SEAT. 4 by the template 'for every input the law returns true; each argument reads behind the call as it read before'; 0 by the template 'total and deterministic' (their statements: YthiplncceglnhaaTotals.lean).
  GIVEN WITH THE SEED: the statements are not yours to turn. If you find one false, say at which input.
  Laid BY PROGRAM, IN A SANDBOX (cutbox-rows.mjs): the forced cells as the released guide's own fill.sh prints them over the translation dfa9e51758f1fc4d… (all of the seat's roots in one cut). By AI agents, Wed Nov 11 2026. No macro, syntax, notation, axiom, sorry.
-/
import Derived.Test.YthiplncceglnhaaChecked
import GoSem.Claim
import GoSem.ClaimJoined
import GoSem.ClaimMapViews
import Derived.JoinedTies
import Derived.KernelRfl
namespace Go.Proofs.Ythiplncceglnhaa
/- THE CELL 'sum', in the pinned program and in every row, IS THE sha256 OF THE DUMP (.gsa) THAT YthiplncceglnhaaProg.lean LOADS. Nothing in Lean hashes anything: it is a label: what it is worth is what the hold of that sum in a sandbox is worth. -/
noncomputable def Try.pinned : Pinned := { name := "ythiplncceglnhaa", sum := "dfa9e51758f1fc4d1308daa548c62acd3f1d71885de843c410adfdfae1682e05", checked := Try.checked }
namespace Rows
def none {H : Type} : Left H := { results := [], args := [] }

/-- 'laws.FnTables': WHATEVER THE INPUT: true; the input reads as it did. -/
def fnTablesSpec : ChangeSpec := { name := "fnTables", fn := fun _ => fun
  | [d] => { results := [.lit (.bool true)], args := [d] }
  | _ => none }
def fnTablesRow : OpenClaim := { program := "ythiplncceglnhaa", sum := "dfa9e51758f1fc4d1308daa548c62acd3f1d71885de843c410adfdfae1682e05", func := "loop.example/g01613/laws.FnTables", spec := "fnTables", unfollowed := true, recurses := true, apart := false }
def FnTablesSaid : Prop := fnTablesRow.holds Try.pinned (OpenSpec.ofChange fnTablesSpec)

/-- ITS FALSE NEIGHBOUR: 'it returns false'. Refute it at one input. -/
def fnTablesWrong : ChangeSpec := { name := "fnTables", fn := fun _ => fun
  | [d] => { results := [.lit (.bool false)], args := [d] }
  | _ => none }
def FnTablesWrongFalsely : Prop := fnTablesRow.holds Try.pinned (OpenSpec.ofChange fnTablesWrong)

/-- 'laws.FnExactUeTable': WHATEVER THE INPUT: true; the input reads as it did. -/
def fnExactUeTableSpec : ChangeSpec := { name := "fnExactUeTable", fn := fun _ => fun
  | [] => { results := [.lit (.bool true)], args := [] }
  | _ => none }
def fnExactUeTableRow : OpenClaim := { program := "ythiplncceglnhaa", sum := "dfa9e51758f1fc4d1308daa548c62acd3f1d71885de843c410adfdfae1682e05", func := "loop.example/g01613/laws.FnExactUeTable", spec := "fnExactUeTable", unfollowed := true, recurses := true, apart := false }
def FnExactUeTableSaid : Prop := fnExactUeTableRow.holds Try.pinned (OpenSpec.ofChange fnExactUeTableSpec)

/-- ITS FALSE NEIGHBOUR: 'it returns false'. Refute it at one input. -/
def fnExactUeTableWrong : ChangeSpec := { name := "fnExactUeTable", fn := fun _ => fun
  | [] => { results := [.lit (.bool false)], args := [] }
  | _ => none }
def FnExactUeTableWrongFalsely : Prop := fnExactUeTableRow.holds Try.pinned (OpenSpec.ofChange fnExactUeTableWrong)

/-- 'laws.FnExactFastUe': WHATEVER THE INPUT: true; the input reads as it did. -/
def fnExactFastUeSpec : ChangeSpec := { name := "fnExactFastUe", fn := fun _ => fun
  | [d1, d2] => { results := [.lit (.bool true)], args := [d1, d2] }
  | _ => none }
def fnExactFastUeRow : OpenClaim := { program := "ythiplncceglnhaa", sum := "dfa9e51758f1fc4d1308daa548c62acd3f1d71885de843c410adfdfae1682e05", func := "loop.example/g01613/laws.FnExactFastUe", spec := "fnExactFastUe", apart := false }
def FnExactFastUeSaid : Prop := fnExactFastUeRow.holds Try.pinned (OpenSpec.ofChange fnExactFastUeSpec)

/-- ITS FALSE NEIGHBOUR: 'it returns false'. Refute it at one input. -/
def fnExactFastUeWrong : ChangeSpec := { name := "fnExactFastUe", fn := fun _ => fun
  | [d1, d2] => { results := [.lit (.bool false)], args := [d1, d2] }
  | _ => none }
def FnExactFastUeWrongFalsely : Prop := fnExactFastUeRow.holds Try.pinned (OpenSpec.ofChange fnExactFastUeWrong)

/-- 'laws.FnExactTableOk': WHATEVER THE INPUT: true; the input reads as it did. -/
def fnExactTableOkSpec : ChangeSpec := { name := "fnExactTableOk", fn := fun _ => fun
  | [d] => { results := [.lit (.bool true)], args := [d] }
  | _ => none }
def fnExactTableOkRow : OpenClaim := { program := "ythiplncceglnhaa", sum := "dfa9e51758f1fc4d1308daa548c62acd3f1d71885de843c410adfdfae1682e05", func := "loop.example/g01613/laws.FnExactTableOk", spec := "fnExactTableOk", unfollowed := true, recurses := true, apart := false }
def FnExactTableOkSaid : Prop := fnExactTableOkRow.holds Try.pinned (OpenSpec.ofChange fnExactTableOkSpec)

/-- ITS FALSE NEIGHBOUR: 'it returns false'. Refute it at one input. -/
def fnExactTableOkWrong : ChangeSpec := { name := "fnExactTableOk", fn := fun _ => fun
  | [d] => { results := [.lit (.bool false)], args := [d] }
  | _ => none }
def FnExactTableOkWrongFalsely : Prop := fnExactTableOkRow.holds Try.pinned (OpenSpec.ofChange fnExactTableOkWrong)

/- THE SECOND FORM. 'bulk': how many values and letters a reading holds, each counted each time it is reached (what is shared counts as often as it is met; a slice's spare places count too). A statement '..UptoSaid' is the law's where the arguments, and the package variables that the reading takes, are together of bulk at most 1048576: NARROWER than '..Said'. Prove '..Said' where nothing that the law and all that it calls make is longer than what came in: it says more and counts as full. Else prove '..UptoSaid'. A law counts once. -/
mutual
def uptoBulk {H : Type} : DataW H → Nat
  | .lit (.string bytes) => bytes.length + 1
  | .lit _ => 1
  | .nil => 1
  | .ptr d => uptoBulk d + 1
  | .slice elems spare => uptoBulkAll elems + uptoBulkAll spare + 1
  | .agg parts => uptoBulkAll parts + 1
  | .iface _ d => uptoBulk d + 1
  | .map entries => uptoBulkEntries entries + 1
  | .held _ => 1
def uptoBulkAll {H : Type} : List (DataW H) → Nat
  | [] => 0
  | d :: r => uptoBulk d + uptoBulkAll r
def uptoBulkEntries {H : Type} : List (Lit × DataW H) → Nat
  | [] => 0
  | x :: r => uptoBulkEntry x + uptoBulkEntries r
def uptoBulkEntry {H : Type} : Lit × DataW H → Nat
  | (.string bytes, d) => bytes.length + uptoBulk d + 1
  | (_, d) => uptoBulk d + 1
 end
def uptoSmall : (H : Type) → List (DataW H) → Bool := fun _ ds => decide (uptoBulkAll ds ≤ 1048576)
def OpenSpec.upto (s : _root_.Go.ChangeSpec) : _root_.Go.OpenSpec := { _root_.Go.OpenSpec.ofChange s with cond := some uptoSmall }

/-- 'laws.FnTables', WHERE WHAT IT READS IS OF BULK AT MOST 1048576: true; the input reads as it did. -/
def fnTablesUptoRow : OpenClaim := { program := "ythiplncceglnhaa", sum := "dfa9e51758f1fc4d1308daa548c62acd3f1d71885de843c410adfdfae1682e05", func := "loop.example/g01613/laws.FnTables", spec := "fnTables", unfollowed := true, recurses := true, apart := false, narrowed := true }
def FnTablesUptoSaid : Prop := fnTablesUptoRow.holds Try.pinned (OpenSpec.upto fnTablesSpec)

/-- 'laws.FnExactUeTable', WHERE WHAT IT READS IS OF BULK AT MOST 1048576: true; the input reads as it did. -/
def fnExactUeTableUptoRow : OpenClaim := { program := "ythiplncceglnhaa", sum := "dfa9e51758f1fc4d1308daa548c62acd3f1d71885de843c410adfdfae1682e05", func := "loop.example/g01613/laws.FnExactUeTable", spec := "fnExactUeTable", unfollowed := true, recurses := true, apart := false, narrowed := true }
def FnExactUeTableUptoSaid : Prop := fnExactUeTableUptoRow.holds Try.pinned (OpenSpec.upto fnExactUeTableSpec)

/-- 'laws.FnExactFastUe', WHERE WHAT IT READS IS OF BULK AT MOST 1048576: true; the input reads as it did. -/
def fnExactFastUeUptoRow : OpenClaim := { program := "ythiplncceglnhaa", sum := "dfa9e51758f1fc4d1308daa548c62acd3f1d71885de843c410adfdfae1682e05", func := "loop.example/g01613/laws.FnExactFastUe", spec := "fnExactFastUe", apart := false, narrowed := true }
def FnExactFastUeUptoSaid : Prop := fnExactFastUeUptoRow.holds Try.pinned (OpenSpec.upto fnExactFastUeSpec)

/-- 'laws.FnExactTableOk', WHERE WHAT IT READS IS OF BULK AT MOST 1048576: true; the input reads as it did. -/
def fnExactTableOkUptoRow : OpenClaim := { program := "ythiplncceglnhaa", sum := "dfa9e51758f1fc4d1308daa548c62acd3f1d71885de843c410adfdfae1682e05", func := "loop.example/g01613/laws.FnExactTableOk", spec := "fnExactTableOk", unfollowed := true, recurses := true, apart := false, narrowed := true }
def FnExactTableOkUptoSaid : Prop := fnExactTableOkUptoRow.holds Try.pinned (OpenSpec.upto fnExactTableOkSpec)

end Rows
end Go.Proofs.Ythiplncceglnhaa
