/-
  No cell of these rows narrows 'for every input' (looked for: loops, veiled, ifaces, maps, wideKeys, modest, calm, conditions, laid).
  DERIVED. THE GIVEN ROWS OF THIS SEAT. 6 by the template 'for every input the law returns true; each argument reads behind the call as it read before'; 0 by the template 'total and deterministic' (their statements: YtbiffijjmhpkpaaTotals.lean).
  GIVEN WITH THE SEED: the statements are not yours to turn. If you find one false, say at which input.
  Laid BY PROGRAM, IN A SANDBOX (cutbox-rows.mjs): the forced cells as the released guide's own fill.sh prints them over the translation 6282b30e89b1b44d… (all of the seat's roots in one cut). By AI agents, Wed Nov 11 2026. No macro, syntax, notation, axiom, sorry.
-/
import Derived.Test.YtbiffijjmhpkpaaChecked
import GoSem.Claim
import GoSem.ClaimJoined
import GoSem.ClaimMapViews
import Derived.JoinedTies
import Derived.KernelRfl
namespace Go.Proofs.Ytbiffijjmhpkpaa
/- THE CELL 'sum', in the pinned program and in every row, IS THE sha256 OF THE DUMP (.gsa) THAT YtbiffijjmhpkpaaProg.lean LOADS. Nothing in Lean hashes anything: it is a label: what it is worth is what the hold of that sum in a sandbox is worth. -/
noncomputable def Try.pinned : Pinned := { name := "ytbiffijjmhpkpaa", sum := "6282b30e89b1b44d388ade9676b752b2e2dc7973a39bb20655c40fa548b6f7b3", checked := Try.checked }
namespace Rows
def none {H : Type} : Left H := { results := [], args := [] }

/-- 'laws.FnLanes': WHATEVER THE INPUT: true; the input reads as it did. -/
def fnLanesSpec : ChangeSpec := { name := "fnLanes", fn := fun _ => fun
  | [d] => { results := [.lit (.bool true)], args := [d] }
  | _ => none }
def fnLanesRow : OpenClaim := { program := "ytbiffijjmhpkpaa", sum := "6282b30e89b1b44d388ade9676b752b2e2dc7973a39bb20655c40fa548b6f7b3", func := "loop.example/g01613/laws.FnLanes", spec := "fnLanes", unfollowed := true, recurses := true, apart := false }
def FnLanesSaid : Prop := fnLanesRow.holds Try.pinned (OpenSpec.ofChange fnLanesSpec)

/-- ITS FALSE NEIGHBOUR: 'it returns false'. Refute it at one input. -/
def fnLanesWrong : ChangeSpec := { name := "fnLanes", fn := fun _ => fun
  | [d] => { results := [.lit (.bool false)], args := [d] }
  | _ => none }
def FnLanesWrongFalsely : Prop := fnLanesRow.holds Try.pinned (OpenSpec.ofChange fnLanesWrong)

/-- 'laws.FnExactPack4': WHATEVER THE INPUT: true; the input reads as it did. -/
def fnExactPack4Spec : ChangeSpec := { name := "fnExactPack4", fn := fun _ => fun
  | [d] => { results := [.lit (.bool true)], args := [d] }
  | _ => none }
def fnExactPack4Row : OpenClaim := { program := "ytbiffijjmhpkpaa", sum := "6282b30e89b1b44d388ade9676b752b2e2dc7973a39bb20655c40fa548b6f7b3", func := "loop.example/g01613/laws.FnExactPack4", spec := "fnExactPack4", unfollowed := true, recurses := true, apart := false }
def FnExactPack4Said : Prop := fnExactPack4Row.holds Try.pinned (OpenSpec.ofChange fnExactPack4Spec)

/-- ITS FALSE NEIGHBOUR: 'it returns false'. Refute it at one input. -/
def fnExactPack4Wrong : ChangeSpec := { name := "fnExactPack4", fn := fun _ => fun
  | [d] => { results := [.lit (.bool false)], args := [d] }
  | _ => none }
def FnExactPack4WrongFalsely : Prop := fnExactPack4Row.holds Try.pinned (OpenSpec.ofChange fnExactPack4Wrong)

/-- 'laws.FnExactUnpack4': WHATEVER THE INPUT: true; the input reads as it did. -/
def fnExactUnpack4Spec : ChangeSpec := { name := "fnExactUnpack4", fn := fun _ => fun
  | [d] => { results := [.lit (.bool true)], args := [d] }
  | _ => none }
def fnExactUnpack4Row : OpenClaim := { program := "ytbiffijjmhpkpaa", sum := "6282b30e89b1b44d388ade9676b752b2e2dc7973a39bb20655c40fa548b6f7b3", func := "loop.example/g01613/laws.FnExactUnpack4", spec := "fnExactUnpack4", apart := false }
def FnExactUnpack4Said : Prop := fnExactUnpack4Row.holds Try.pinned (OpenSpec.ofChange fnExactUnpack4Spec)

/-- ITS FALSE NEIGHBOUR: 'it returns false'. Refute it at one input. -/
def fnExactUnpack4Wrong : ChangeSpec := { name := "fnExactUnpack4", fn := fun _ => fun
  | [d] => { results := [.lit (.bool false)], args := [d] }
  | _ => none }
def FnExactUnpack4WrongFalsely : Prop := fnExactUnpack4Row.holds Try.pinned (OpenSpec.ofChange fnExactUnpack4Wrong)

/-- 'laws.FnExactAddLanes': WHATEVER THE INPUT: true; the input reads as it did. -/
def fnExactAddLanesSpec : ChangeSpec := { name := "fnExactAddLanes", fn := fun _ => fun
  | [d1, d2] => { results := [.lit (.bool true)], args := [d1, d2] }
  | _ => none }
def fnExactAddLanesRow : OpenClaim := { program := "ytbiffijjmhpkpaa", sum := "6282b30e89b1b44d388ade9676b752b2e2dc7973a39bb20655c40fa548b6f7b3", func := "loop.example/g01613/laws.FnExactAddLanes", spec := "fnExactAddLanes", apart := false }
def FnExactAddLanesSaid : Prop := fnExactAddLanesRow.holds Try.pinned (OpenSpec.ofChange fnExactAddLanesSpec)

/-- ITS FALSE NEIGHBOUR: 'it returns false'. Refute it at one input. -/
def fnExactAddLanesWrong : ChangeSpec := { name := "fnExactAddLanes", fn := fun _ => fun
  | [d1, d2] => { results := [.lit (.bool false)], args := [d1, d2] }
  | _ => none }
def FnExactAddLanesWrongFalsely : Prop := fnExactAddLanesRow.holds Try.pinned (OpenSpec.ofChange fnExactAddLanesWrong)

/-- 'laws.FnExactClipLanes': WHATEVER THE INPUT: true; the input reads as it did. -/
def fnExactClipLanesSpec : ChangeSpec := { name := "fnExactClipLanes", fn := fun _ => fun
  | [d] => { results := [.lit (.bool true)], args := [d] }
  | _ => none }
def fnExactClipLanesRow : OpenClaim := { program := "ytbiffijjmhpkpaa", sum := "6282b30e89b1b44d388ade9676b752b2e2dc7973a39bb20655c40fa548b6f7b3", func := "loop.example/g01613/laws.FnExactClipLanes", spec := "fnExactClipLanes", apart := false }
def FnExactClipLanesSaid : Prop := fnExactClipLanesRow.holds Try.pinned (OpenSpec.ofChange fnExactClipLanesSpec)

/-- ITS FALSE NEIGHBOUR: 'it returns false'. Refute it at one input. -/
def fnExactClipLanesWrong : ChangeSpec := { name := "fnExactClipLanes", fn := fun _ => fun
  | [d] => { results := [.lit (.bool false)], args := [d] }
  | _ => none }
def FnExactClipLanesWrongFalsely : Prop := fnExactClipLanesRow.holds Try.pinned (OpenSpec.ofChange fnExactClipLanesWrong)

/-- 'laws.FnExactClipAdd4': WHATEVER THE INPUT: true; the input reads as it did. -/
def fnExactClipAdd4Spec : ChangeSpec := { name := "fnExactClipAdd4", fn := fun _ => fun
  | [d1, d2] => { results := [.lit (.bool true)], args := [d1, d2] }
  | _ => none }
def fnExactClipAdd4Row : OpenClaim := { program := "ytbiffijjmhpkpaa", sum := "6282b30e89b1b44d388ade9676b752b2e2dc7973a39bb20655c40fa548b6f7b3", func := "loop.example/g01613/laws.FnExactClipAdd4", spec := "fnExactClipAdd4", unfollowed := true, recurses := true, apart := false }
def FnExactClipAdd4Said : Prop := fnExactClipAdd4Row.holds Try.pinned (OpenSpec.ofChange fnExactClipAdd4Spec)

/-- ITS FALSE NEIGHBOUR: 'it returns false'. Refute it at one input. -/
def fnExactClipAdd4Wrong : ChangeSpec := { name := "fnExactClipAdd4", fn := fun _ => fun
  | [d1, d2] => { results := [.lit (.bool false)], args := [d1, d2] }
  | _ => none }
def FnExactClipAdd4WrongFalsely : Prop := fnExactClipAdd4Row.holds Try.pinned (OpenSpec.ofChange fnExactClipAdd4Wrong)

/- THE SECOND FORM. 'bulk': how many values and letters a reading holds, each counted each time it is reached (what is shared counts as often as it is met; a slice's spare places count too). A statement '..UptoSaid' is the law's where the arguments, and the package variables that the reading takes, are together of bulk at most 1048576: NARROWER than '..Said'. Prove '..Said' where nothing that the law and all that it calls make is longer than what came in: it says more and counts as full. Else prove '..UptoSaid'. A law counts once. -/
mutual
def uptoBulk {H : Type} : DataW H → Nat
  | .lit (.string bytes) => bytes.length + 1
  | .lit _ => 1
  | .nil => 1
  | .ptr d => uptoBulk d + 1
  | .slice elems spare => uptoBulkAll elems + uptoBulkAll spare + 1
  | .agg parts => uptoBulkAll parts + 1
  | .iface _ d => uptoBulk d + 1
  | .map entries => uptoBulkEntries entries + 1
  | .held _ => 1
def uptoBulkAll {H : Type} : List (DataW H) → Nat
  | [] => 0
  | d :: r => uptoBulk d + uptoBulkAll r
def uptoBulkEntries {H : Type} : List (Lit × DataW H) → Nat
  | [] => 0
  | x :: r => uptoBulkEntry x + uptoBulkEntries r
def uptoBulkEntry {H : Type} : Lit × DataW H → Nat
  | (.string bytes, d) => bytes.length + uptoBulk d + 1
  | (_, d) => uptoBulk d + 1
 end
def uptoSmall : (H : Type) → List (DataW H) → Bool := fun _ ds => decide (uptoBulkAll ds ≤ 1048576)
def OpenSpec.upto (s : _root_.Go.ChangeSpec) : _root_.Go.OpenSpec := { _root_.Go.OpenSpec.ofChange s with cond := some uptoSmall }

/-- 'laws.FnLanes', WHERE WHAT IT READS IS OF BULK AT MOST 1048576: true; the input reads as it did. -/
def fnLanesUptoRow : OpenClaim := { program := "ytbiffijjmhpkpaa", sum := "6282b30e89b1b44d388ade9676b752b2e2dc7973a39bb20655c40fa548b6f7b3", func := "loop.example/g01613/laws.FnLanes", spec := "fnLanes", unfollowed := true, recurses := true, apart := false, narrowed := true }
def FnLanesUptoSaid : Prop := fnLanesUptoRow.holds Try.pinned (OpenSpec.upto fnLanesSpec)

/-- 'laws.FnExactPack4', WHERE WHAT IT READS IS OF BULK AT MOST 1048576: true; the input reads as it did. -/
def fnExactPack4UptoRow : OpenClaim := { program := "ytbiffijjmhpkpaa", sum := "6282b30e89b1b44d388ade9676b752b2e2dc7973a39bb20655c40fa548b6f7b3", func := "loop.example/g01613/laws.FnExactPack4", spec := "fnExactPack4", unfollowed := true, recurses := true, apart := false, narrowed := true }
def FnExactPack4UptoSaid : Prop := fnExactPack4UptoRow.holds Try.pinned (OpenSpec.upto fnExactPack4Spec)

/-- 'laws.FnExactUnpack4', WHERE WHAT IT READS IS OF BULK AT MOST 1048576: true; the input reads as it did. -/
def fnExactUnpack4UptoRow : OpenClaim := { program := "ytbiffijjmhpkpaa", sum := "6282b30e89b1b44d388ade9676b752b2e2dc7973a39bb20655c40fa548b6f7b3", func := "loop.example/g01613/laws.FnExactUnpack4", spec := "fnExactUnpack4", apart := false, narrowed := true }
def FnExactUnpack4UptoSaid : Prop := fnExactUnpack4UptoRow.holds Try.pinned (OpenSpec.upto fnExactUnpack4Spec)

/-- 'laws.FnExactAddLanes', WHERE WHAT IT READS IS OF BULK AT MOST 1048576: true; the input reads as it did. -/
def fnExactAddLanesUptoRow : OpenClaim := { program := "ytbiffijjmhpkpaa", sum := "6282b30e89b1b44d388ade9676b752b2e2dc7973a39bb20655c40fa548b6f7b3", func := "loop.example/g01613/laws.FnExactAddLanes", spec := "fnExactAddLanes", apart := false, narrowed := true }
def FnExactAddLanesUptoSaid : Prop := fnExactAddLanesUptoRow.holds Try.pinned (OpenSpec.upto fnExactAddLanesSpec)

/-- 'laws.FnExactClipLanes', WHERE WHAT IT READS IS OF BULK AT MOST 1048576: true; the input reads as it did. -/
def fnExactClipLanesUptoRow : OpenClaim := { program := "ytbiffijjmhpkpaa", sum := "6282b30e89b1b44d388ade9676b752b2e2dc7973a39bb20655c40fa548b6f7b3", func := "loop.example/g01613/laws.FnExactClipLanes", spec := "fnExactClipLanes", apart := false, narrowed := true }
def FnExactClipLanesUptoSaid : Prop := fnExactClipLanesUptoRow.holds Try.pinned (OpenSpec.upto fnExactClipLanesSpec)

/-- 'laws.FnExactClipAdd4', WHERE WHAT IT READS IS OF BULK AT MOST 1048576: true; the input reads as it did. -/
def fnExactClipAdd4UptoRow : OpenClaim := { program := "ytbiffijjmhpkpaa", sum := "6282b30e89b1b44d388ade9676b752b2e2dc7973a39bb20655c40fa548b6f7b3", func := "loop.example/g01613/laws.FnExactClipAdd4", spec := "fnExactClipAdd4", unfollowed := true, recurses := true, apart := false, narrowed := true }
def FnExactClipAdd4UptoSaid : Prop := fnExactClipAdd4UptoRow.holds Try.pinned (OpenSpec.upto fnExactClipAdd4Spec)

end Rows
end Go.Proofs.Ytbiffijjmhpkpaa
