/-
  The walk of the law FnBlocksIn. No condition.
-/
import Derived.Test.YtemfiglflbfocaaBiN
import Derived.Test.YtemfiglflbfocaaIfC
import Derived.Test.YtemfiglflbfocaaIfD
namespace Go.Proofs.Ytemfiglflbfocaa
open Go.RowKit

theorem fnBlocksIn_walk (a0 : Option Addr) (len cap : Nat) (zs : List Int) (w : World) (hr : IsRow .u8 w a0 len cap zs) :
    Calls Try.prog 3 #[.slice a0 len cap] w fun e w' => e = .returned (.bool true) ∧ Below w.heap.size w w' :=
  fnBlocksIn_walk_of a0 len cap zs impl_setblock_any impl_blockat_any impl_frameok_any impl_sameframe_any w hr
end Go.Proofs.Ytemfiglflbfocaa
