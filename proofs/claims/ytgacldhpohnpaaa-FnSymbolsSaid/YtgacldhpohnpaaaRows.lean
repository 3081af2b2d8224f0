/-
  No cell of these rows narrows 'for every input' (looked for: loops, veiled, ifaces, maps, wideKeys, modest, calm, conditions, laid).
  DERIVED. THE GIVEN ROWS OF THIS SEAT. 10 by the template 'for every input the law returns true; each argument reads behind the call as it read before'; 0 by the template 'total and deterministic' (their statements: YtgacldhpohnpaaaTotals.lean).
  GIVEN WITH THE SEED: the statements are not yours to turn. If you find one false, say at which input.
  Laid BY PROGRAM, IN A SANDBOX (cutbox-rows.mjs): the forced cells as the released guide's own fill.sh prints them over the translation 4d40c5848933b89e… (all of the seat's roots in one cut). By AI agents, Wed Nov 11 2026. No macro, syntax, notation, axiom, sorry.
-/
import Derived.Test.YtgacldhpohnpaaaChecked
import GoSem.Claim
import GoSem.ClaimJoined
import GoSem.ClaimMapViews
import Derived.JoinedTies
import Derived.KernelRfl
namespace Go.Proofs.Ytgacldhpohnpaaa
/- THE CELL 'sum', in the pinned program and in every row, IS THE sha256 OF THE DUMP (.gsa) THAT YtgacldhpohnpaaaProg.lean LOADS. Nothing in Lean hashes anything: it is a label: what it is worth is what the hold of that sum in a sandbox is worth. -/
noncomputable def Try.pinned : Pinned := { name := "ytgacldhpohnpaaa", sum := "4d40c5848933b89ef7c34229daae629834980d5fffc436dff1b3560e47085b37", checked := Try.checked }
namespace Rows
def none {H : Type} : Left H := { results := [], args := [] }

/-- 'laws.FnTables': WHATEVER THE INPUT: true; the input reads as it did. -/
def fnTablesSpec : ChangeSpec := { name := "fnTables", fn := fun _ => fun
  | [d] => { results := [.lit (.bool true)], args := [d] }
  | _ => none }
def fnTablesRow : OpenClaim := { program := "ytgacldhpohnpaaa", sum := "4d40c5848933b89ef7c34229daae629834980d5fffc436dff1b3560e47085b37", func := "loop.example/g01613/laws.FnTables", spec := "fnTables", unfollowed := true, recurses := true, apart := false }
def FnTablesSaid : Prop := fnTablesRow.holds Try.pinned (OpenSpec.ofChange fnTablesSpec)

/-- ITS FALSE NEIGHBOUR: 'it returns false'. Refute it at one input. -/
def fnTablesWrong : ChangeSpec := { name := "fnTables", fn := fun _ => fun
  | [d] => { results := [.lit (.bool false)], args := [d] }
  | _ => none }
def FnTablesWrongFalsely : Prop := fnTablesRow.holds Try.pinned (OpenSpec.ofChange fnTablesWrong)

/-- 'laws.FnCodes': WHATEVER THE INPUT: true; the input reads as it did. -/
def fnCodesSpec : ChangeSpec := { name := "fnCodes", fn := fun _ => fun
  | [d] => { results := [.lit (.bool true)], args := [d] }
  | _ => none }
def fnCodesRow : OpenClaim := { program := "ytgacldhpohnpaaa", sum := "4d40c5848933b89ef7c34229daae629834980d5fffc436dff1b3560e47085b37", func := "loop.example/g01613/laws.FnCodes", spec := "fnCodes", apart := false }
def FnCodesSaid : Prop := fnCodesRow.holds Try.pinned (OpenSpec.ofChange fnCodesSpec)

/-- ITS FALSE NEIGHBOUR: 'it returns false'. Refute it at one input. -/
def fnCodesWrong : ChangeSpec := { name := "fnCodes", fn := fun _ => fun
  | [d] => { results := [.lit (.bool false)], args := [d] }
  | _ => none }
def FnCodesWrongFalsely : Prop := fnCodesRow.holds Try.pinned (OpenSpec.ofChange fnCodesWrong)

/-- 'laws.FnSymbols': WHATEVER THE INPUT: true; the input reads as it did. -/
def fnSymbolsSpec : ChangeSpec := { name := "fnSymbols", fn := fun _ => fun
  | [d] => { results := [.lit (.bool true)], args := [d] }
  | _ => none }
def fnSymbolsRow : OpenClaim := { program := "ytgacldhpohnpaaa", sum := "4d40c5848933b89ef7c34229daae629834980d5fffc436dff1b3560e47085b37", func := "loop.example/g01613/laws.FnSymbols", spec := "fnSymbols", apart := false }
def FnSymbolsSaid : Prop := fnSymbolsRow.holds Try.pinned (OpenSpec.ofChange fnSymbolsSpec)

/-- ITS FALSE NEIGHBOUR: 'it returns false'. Refute it at one input. -/
def fnSymbolsWrong : ChangeSpec := { name := "fnSymbols", fn := fun _ => fun
  | [d] => { results := [.lit (.bool false)], args := [d] }
  | _ => none }
def FnSymbolsWrongFalsely : Prop := fnSymbolsRow.holds Try.pinned (OpenSpec.ofChange fnSymbolsWrong)

/-- 'laws.FnExactFastUe': WHATEVER THE INPUT: true; the input reads as it did. -/
def fnExactFastUeSpec : ChangeSpec := { name := "fnExactFastUe", fn := fun _ => fun
  | [d1, d2] => { results := [.lit (.bool true)], args := [d1, d2] }
  | _ => none }
def fnExactFastUeRow : OpenClaim := { program := "ytgacldhpohnpaaa", sum := "4d40c5848933b89ef7c34229daae629834980d5fffc436dff1b3560e47085b37", func := "loop.example/g01613/laws.FnExactFastUe", spec := "fnExactFastUe", apart := false }
def FnExactFastUeSaid : Prop := fnExactFastUeRow.holds Try.pinned (OpenSpec.ofChange fnExactFastUeSpec)

/-- ITS FALSE NEIGHBOUR: 'it returns false'. Refute it at one input. -/
def fnExactFastUeWrong : ChangeSpec := { name := "fnExactFastUe", fn := fun _ => fun
  | [d1, d2] => { results := [.lit (.bool false)], args := [d1, d2] }
  | _ => none }
def FnExactFastUeWrongFalsely : Prop := fnExactFastUeRow.holds Try.pinned (OpenSpec.ofChange fnExactFastUeWrong)

/-- 'laws.FnExactCodeOk': WHATEVER THE INPUT: true; the input reads as it did. -/
def fnExactCodeOkSpec : ChangeSpec := { name := "fnExactCodeOk", fn := fun _ => fun
  | [d] => { results := [.lit (.bool true)], args := [d] }
  | _ => none }
def fnExactCodeOkRow : OpenClaim := { program := "ytgacldhpohnpaaa", sum := "4d40c5848933b89ef7c34229daae629834980d5fffc436dff1b3560e47085b37", func := "loop.example/g01613/laws.FnExactCodeOk", spec := "fnExactCodeOk", apart := false }
def FnExactCodeOkSaid : Prop := fnExactCodeOkRow.holds Try.pinned (OpenSpec.ofChange fnExactCodeOkSpec)

/-- ITS FALSE NEIGHBOUR: 'it returns false'. Refute it at one input. -/
def fnExactCodeOkWrong : ChangeSpec := { name := "fnExactCodeOk", fn := fun _ => fun
  | [d] => { results := [.lit (.bool false)], args := [d] }
  | _ => none }
def FnExactCodeOkWrongFalsely : Prop := fnExactCodeOkRow.holds Try.pinned (OpenSpec.ofChange fnExactCodeOkWrong)

/-- 'laws.FnExactCodesOf': WHATEVER THE INPUT: true; the input reads as it did. -/
def fnExactCodesOfSpec : ChangeSpec := { name := "fnExactCodesOf", fn := fun _ => fun
  | [d] => { results := [.lit (.bool true)], args := [d] }
  | _ => none }
def fnExactCodesOfRow : OpenClaim := { program := "ytgacldhpohnpaaa", sum := "4d40c5848933b89ef7c34229daae629834980d5fffc436dff1b3560e47085b37", func := "loop.example/g01613/laws.FnExactCodesOf", spec := "fnExactCodesOf", apart := false }
def FnExactCodesOfSaid : Prop := fnExactCodesOfRow.holds Try.pinned (OpenSpec.ofChange fnExactCodesOfSpec)

/-- ITS FALSE NEIGHBOUR: 'it returns false'. Refute it at one input. -/
def fnExactCodesOfWrong : ChangeSpec := { name := "fnExactCodesOf", fn := fun _ => fun
  | [d] => { results := [.lit (.bool false)], args := [d] }
  | _ => none }
def FnExactCodesOfWrongFalsely : Prop := fnExactCodesOfRow.holds Try.pinned (OpenSpec.ofChange fnExactCodesOfWrong)

/-- 'laws.FnExactReadSym': WHATEVER THE INPUT: true; the input reads as it did. -/
def fnExactReadSymSpec : ChangeSpec := { name := "fnExactReadSym", fn := fun _ => fun
  | [d1, d2] => { results := [.lit (.bool true)], args := [d1, d2] }
  | _ => none }
def fnExactReadSymRow : OpenClaim := { program := "ytgacldhpohnpaaa", sum := "4d40c5848933b89ef7c34229daae629834980d5fffc436dff1b3560e47085b37", func := "loop.example/g01613/laws.FnExactReadSym", spec := "fnExactReadSym", apart := false }
def FnExactReadSymSaid : Prop := fnExactReadSymRow.holds Try.pinned (OpenSpec.ofChange fnExactReadSymSpec)

/-- ITS FALSE NEIGHBOUR: 'it returns false'. Refute it at one input. -/
def fnExactReadSymWrong : ChangeSpec := { name := "fnExactReadSym", fn := fun _ => fun
  | [d1, d2] => { results := [.lit (.bool false)], args := [d1, d2] }
  | _ => none }
def FnExactReadSymWrongFalsely : Prop := fnExactReadSymRow.holds Try.pinned (OpenSpec.ofChange fnExactReadSymWrong)

/-- 'laws.FnExactSymBits': WHATEVER THE INPUT: true; the input reads as it did. -/
def fnExactSymBitsSpec : ChangeSpec := { name := "fnExactSymBits", fn := fun _ => fun
  | [d1, d2] => { results := [.lit (.bool true)], args := [d1, d2] }
  | _ => none }
def fnExactSymBitsRow : OpenClaim := { program := "ytgacldhpohnpaaa", sum := "4d40c5848933b89ef7c34229daae629834980d5fffc436dff1b3560e47085b37", func := "loop.example/g01613/laws.FnExactSymBits", spec := "fnExactSymBits", apart := false }
def FnExactSymBitsSaid : Prop := fnExactSymBitsRow.holds Try.pinned (OpenSpec.ofChange fnExactSymBitsSpec)

/-- ITS FALSE NEIGHBOUR: 'it returns false'. Refute it at one input. -/
def fnExactSymBitsWrong : ChangeSpec := { name := "fnExactSymBits", fn := fun _ => fun
  | [d1, d2] => { results := [.lit (.bool false)], args := [d1, d2] }
  | _ => none }
def FnExactSymBitsWrongFalsely : Prop := fnExactSymBitsRow.holds Try.pinned (OpenSpec.ofChange fnExactSymBitsWrong)

/-- 'laws.FnExactSymTable': WHATEVER THE INPUT: true; the input reads as it did. -/
def fnExactSymTableSpec : ChangeSpec := { name := "fnExactSymTable", fn := fun _ => fun
  | [d] => { results := [.lit (.bool true)], args := [d] }
  | _ => none }
def fnExactSymTableRow : OpenClaim := { program := "ytgacldhpohnpaaa", sum := "4d40c5848933b89ef7c34229daae629834980d5fffc436dff1b3560e47085b37", func := "loop.example/g01613/laws.FnExactSymTable", spec := "fnExactSymTable", apart := false }
def FnExactSymTableSaid : Prop := fnExactSymTableRow.holds Try.pinned (OpenSpec.ofChange fnExactSymTableSpec)

/-- ITS FALSE NEIGHBOUR: 'it returns false'. Refute it at one input. -/
def fnExactSymTableWrong : ChangeSpec := { name := "fnExactSymTable", fn := fun _ => fun
  | [d] => { results := [.lit (.bool false)], args := [d] }
  | _ => none }
def FnExactSymTableWrongFalsely : Prop := fnExactSymTableRow.holds Try.pinned (OpenSpec.ofChange fnExactSymTableWrong)

/-- 'laws.FnExactFastSym': WHATEVER THE INPUT: true; the input reads as it did. -/
def fnExactFastSymSpec : ChangeSpec := { name := "fnExactFastSym", fn := fun _ => fun
  | [d1, d2] => { results := [.lit (.bool true)], args := [d1, d2] }
  | _ => none }
def fnExactFastSymRow : OpenClaim := { program := "ytgacldhpohnpaaa", sum := "4d40c5848933b89ef7c34229daae629834980d5fffc436dff1b3560e47085b37", func := "loop.example/g01613/laws.FnExactFastSym", spec := "fnExactFastSym", apart := false }
def FnExactFastSymSaid : Prop := fnExactFastSymRow.holds Try.pinned (OpenSpec.ofChange fnExactFastSymSpec)

/-- ITS FALSE NEIGHBOUR: 'it returns false'. Refute it at one input. -/
def fnExactFastSymWrong : ChangeSpec := { name := "fnExactFastSym", fn := fun _ => fun
  | [d1, d2] => { results := [.lit (.bool false)], args := [d1, d2] }
  | _ => none }
def FnExactFastSymWrongFalsely : Prop := fnExactFastSymRow.holds Try.pinned (OpenSpec.ofChange fnExactFastSymWrong)

/- THE SECOND FORM. 'bulk': how many values and letters a reading holds, each counted each time it is reached (what is shared counts as often as it is met; a slice's spare places count too). A statement '..UptoSaid' is the law's where the arguments, and the package variables that the reading takes, are together of bulk at most 1048576: NARROWER than '..Said'. Prove '..Said' where nothing that the law and all that it calls make is longer than what came in: it says more and counts as full. Else prove '..UptoSaid'. A law counts once. -/
mutual
def uptoBulk {H : Type} : DataW H → Nat
  | .lit (.string bytes) => bytes.length + 1
  | .lit _ => 1
  | .nil => 1
  | .ptr d => uptoBulk d + 1
  | .slice elems spare => uptoBulkAll elems + uptoBulkAll spare + 1
  | .agg parts => uptoBulkAll parts + 1
  | .iface _ d => uptoBulk d + 1
  | .map entries => uptoBulkEntries entries + 1
  | .held _ => 1
def uptoBulkAll {H : Type} : List (DataW H) → Nat
  | [] => 0
  | d :: r => uptoBulk d + uptoBulkAll r
def uptoBulkEntries {H : Type} : List (Lit × DataW H) → Nat
  | [] => 0
  | x :: r => uptoBulkEntry x + uptoBulkEntries r
def uptoBulkEntry {H : Type} : Lit × DataW H → Nat
  | (.string bytes, d) => bytes.length + uptoBulk d + 1
  | (_, d) => uptoBulk d + 1
 end
def uptoSmall : (H : Type) → List (DataW H) → Bool := fun _ ds => decide (uptoBulkAll ds ≤ 1048576)
def OpenSpec.upto (s : _root_.Go.ChangeSpec) : _root_.Go.OpenSpec := { _root_.Go.OpenSpec.ofChange s with cond := some uptoSmall }

/-- 'laws.FnTables', WHERE WHAT IT READS IS OF BULK AT MOST 1048576: true; the input reads as it did. -/
def fnTablesUptoRow : OpenClaim := { program := "ytgacldhpohnpaaa", sum := "4d40c5848933b89ef7c34229daae629834980d5fffc436dff1b3560e47085b37", func := "loop.example/g01613/laws.FnTables", spec := "fnTables", unfollowed := true, recurses := true, apart := false, narrowed := true }
def FnTablesUptoSaid : Prop := fnTablesUptoRow.holds Try.pinned (OpenSpec.upto fnTablesSpec)

/-- 'laws.FnCodes', WHERE WHAT IT READS IS OF BULK AT MOST 1048576: true; the input reads as it did. -/
def fnCodesUptoRow : OpenClaim := { program := "ytgacldhpohnpaaa", sum := "4d40c5848933b89ef7c34229daae629834980d5fffc436dff1b3560e47085b37", func := "loop.example/g01613/laws.FnCodes", spec := "fnCodes", apart := false, narrowed := true }
def FnCodesUptoSaid : Prop := fnCodesUptoRow.holds Try.pinned (OpenSpec.upto fnCodesSpec)

/-- 'laws.FnSymbols', WHERE WHAT IT READS IS OF BULK AT MOST 1048576: true; the input reads as it did. -/
def fnSymbolsUptoRow : OpenClaim := { program := "ytgacldhpohnpaaa", sum := "4d40c5848933b89ef7c34229daae629834980d5fffc436dff1b3560e47085b37", func := "loop.example/g01613/laws.FnSymbols", spec := "fnSymbols", apart := false, narrowed := true }
def FnSymbolsUptoSaid : Prop := fnSymbolsUptoRow.holds Try.pinned (OpenSpec.upto fnSymbolsSpec)

/-- 'laws.FnExactFastUe', WHERE WHAT IT READS IS OF BULK AT MOST 1048576: true; the input reads as it did. -/
def fnExactFastUeUptoRow : OpenClaim := { program := "ytgacldhpohnpaaa", sum := "4d40c5848933b89ef7c34229daae629834980d5fffc436dff1b3560e47085b37", func := "loop.example/g01613/laws.FnExactFastUe", spec := "fnExactFastUe", apart := false, narrowed := true }
def FnExactFastUeUptoSaid : Prop := fnExactFastUeUptoRow.holds Try.pinned (OpenSpec.upto fnExactFastUeSpec)

/-- 'laws.FnExactCodeOk', WHERE WHAT IT READS IS OF BULK AT MOST 1048576: true; the input reads as it did. -/
def fnExactCodeOkUptoRow : OpenClaim := { program := "ytgacldhpohnpaaa", sum := "4d40c5848933b89ef7c34229daae629834980d5fffc436dff1b3560e47085b37", func := "loop.example/g01613/laws.FnExactCodeOk", spec := "fnExactCodeOk", apart := false, narrowed := true }
def FnExactCodeOkUptoSaid : Prop := fnExactCodeOkUptoRow.holds Try.pinned (OpenSpec.upto fnExactCodeOkSpec)

/-- 'laws.FnExactCodesOf', WHERE WHAT IT READS IS OF BULK AT MOST 1048576: true; the input reads as it did. -/
def fnExactCodesOfUptoRow : OpenClaim := { program := "ytgacldhpohnpaaa", sum := "4d40c5848933b89ef7c34229daae629834980d5fffc436dff1b3560e47085b37", func := "loop.example/g01613/laws.FnExactCodesOf", spec := "fnExactCodesOf", apart := false, narrowed := true }
def FnExactCodesOfUptoSaid : Prop := fnExactCodesOfUptoRow.holds Try.pinned (OpenSpec.upto fnExactCodesOfSpec)

/-- 'laws.FnExactReadSym', WHERE WHAT IT READS IS OF BULK AT MOST 1048576: true; the input reads as it did. -/
def fnExactReadSymUptoRow : OpenClaim := { program := "ytgacldhpohnpaaa", sum := "4d40c5848933b89ef7c34229daae629834980d5fffc436dff1b3560e47085b37", func := "loop.example/g01613/laws.FnExactReadSym", spec := "fnExactReadSym", apart := false, narrowed := true }
def FnExactReadSymUptoSaid : Prop := fnExactReadSymUptoRow.holds Try.pinned (OpenSpec.upto fnExactReadSymSpec)

/-- 'laws.FnExactSymBits', WHERE WHAT IT READS IS OF BULK AT MOST 1048576: true; the input reads as it did. -/
def fnExactSymBitsUptoRow : OpenClaim := { program := "ytgacldhpohnpaaa", sum := "4d40c5848933b89ef7c34229daae629834980d5fffc436dff1b3560e47085b37", func := "loop.example/g01613/laws.FnExactSymBits", spec := "fnExactSymBits", apart := false, narrowed := true }
def FnExactSymBitsUptoSaid : Prop := fnExactSymBitsUptoRow.holds Try.pinned (OpenSpec.upto fnExactSymBitsSpec)

/-- 'laws.FnExactSymTable', WHERE WHAT IT READS IS OF BULK AT MOST 1048576: true; the input reads as it did. -/
def fnExactSymTableUptoRow : OpenClaim := { program := "ytgacldhpohnpaaa", sum := "4d40c5848933b89ef7c34229daae629834980d5fffc436dff1b3560e47085b37", func := "loop.example/g01613/laws.FnExactSymTable", spec := "fnExactSymTable", apart := false, narrowed := true }
def FnExactSymTableUptoSaid : Prop := fnExactSymTableUptoRow.holds Try.pinned (OpenSpec.upto fnExactSymTableSpec)

/-- 'laws.FnExactFastSym', WHERE WHAT IT READS IS OF BULK AT MOST 1048576: true; the input reads as it did. -/
def fnExactFastSymUptoRow : OpenClaim := { program := "ytgacldhpohnpaaa", sum := "4d40c5848933b89ef7c34229daae629834980d5fffc436dff1b3560e47085b37", func := "loop.example/g01613/laws.FnExactFastSym", spec := "fnExactFastSym", apart := false, narrowed := true }
def FnExactFastSymUptoSaid : Prop := fnExactFastSymUptoRow.holds Try.pinned (OpenSpec.upto fnExactFastSymSpec)

end Rows
end Go.Proofs.Ytgacldhpohnpaaa
