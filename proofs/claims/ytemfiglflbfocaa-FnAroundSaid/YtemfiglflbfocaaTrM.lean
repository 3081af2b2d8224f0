/-
  The laws' helpers over rows of blocks: their size, their copy, whether two are alike, their marks. Condition: sizes are no larger than 1048576 (the laws ask no more).
  The laws' helpers over Mb: its size, its copy, whether two are alike, its marks. Condition: sizes are no larger than 1048576 (the laws ask no more).
  The laws' helpers over rows of macroblocks: their size, their copy, whether two are alike, their marks. Condition: sizes are no larger than 1048576 (the laws ask no more).
  The laws' helpers over Stream: its size, its copy, whether two are alike, its marks. Condition: sizes are no larger than 1048576 (the laws ask no more).
  Contracts of the laws' helpers over Mb and Stream with a length that is a letter; what is owned depends on its blocks of memory alone. No condition.
-/
import Derived.Test.YtemfiglflbfocaaTrA
import Derived.Test.YtemfiglflbfocaaRsM
import Derived.Test.YtemfiglflbfocaaCacheA
import Derived.Deep.RegionHeld3
import Derived.Test.YtemfiglflbfocaaK7
namespace Go.Proofs.Ytemfiglflbfocaa
open Go.RowKit
set_option linter.unusedVariables false

def zeroBlock : BlkC := ⟨0, [], none, 0⟩
/-- What a row reads after it was marked. -/
def markBs (k : Nat) : List BlkC → List BlkC
  | [] => []
  | x :: xs => ⟨(k : Int), markL ((k + 1 : Nat) : Int) x.l.length, x.a, x.c⟩ :: markBs (k + 1 + x.l.length) xs
theorem markBs_len : ∀ (k : Nat) (xs : List BlkC), (markBs k xs).length = xs.length
  | _, [] => rfl
  | k, x :: xs => by rw [markBs, List.length_cons, List.length_cons, markBs_len _ xs]
theorem markBs_at : ∀ (k : Nat) (xs : List BlkC) (j : Nat) (x : BlkC), xs[j]? = some x → (markBs k xs)[j]? = some ⟨((k + j + sumW (fun x : BlkC => x.l.length) (xs.take j) : Nat) : Int), markL ((k + j + sumW (fun x : BlkC => x.l.length) (xs.take j) + 1 : Nat) : Int) x.l.length, x.a, x.c⟩
  | _, [], j, x, h => by simp at h
  | k, y :: xs, 0, x, h => by
    simp only [List.getElem?_cons_zero, Option.some.injEq] at h
    subst h
    rw [markBs, List.getElem?_cons_zero]
    simp [sumW]
  | k, y :: xs, j + 1, x, h => by
    rw [List.getElem?_cons_succ] at h
    rw [markBs, List.getElem?_cons_succ, markBs_at _ xs j x h, List.take_succ_cons, sumW]
    have e : k + 1 + y.l.length + j + sumW (fun x : BlkC => x.l.length) (xs.take j) = k + (j + 1) + (y.l.length + sumW (fun x : BlkC => x.l.length) (xs.take j)) := by omega
    rw [e]
theorem markBs_snoc : ∀ (k : Nat) (xs : List BlkC) (x : BlkC), markBs k (xs ++ [x]) = markBs k xs ++ [⟨((k + xs.length + sumW (fun x : BlkC => x.l.length) xs : Nat) : Int), markL ((k + xs.length + sumW (fun x : BlkC => x.l.length) xs + 1 : Nat) : Int) x.l.length, x.a, x.c⟩]
  | k, [], x => by simp [markBs, sumW]
  | k, y :: xs, x => by
    rw [List.cons_append, markBs, markBs_snoc _ xs x, markBs, List.cons_append, List.length_cons, sumW]
    have e : k + 1 + y.l.length + xs.length + sumW (fun x : BlkC => x.l.length) xs = k + (xs.length + 1) + (y.l.length + sumW (fun x : BlkC => x.l.length) xs) := by omega
    rw [e]
theorem markBs_fp : ∀ (k : Nat) (xs : List BlkC), fpIn (markBs k xs) = fpIn xs
  | _, [] => rfl
  | k, x :: xs => by have h := markBs_fp (k + 1 + x.l.length) xs; unfold fpIn at h ⊢; rw [markBs, List.flatMap_cons, List.flatMap_cons, h]
theorem markBs_lens : ∀ (k : Nat) (xs : List BlkC), lenB (markBs k xs) = lenB xs
  | _, [] => rfl
  | k, x :: xs => by have h := markBs_lens (k + 1 + x.l.length) xs; unfold lenB at h ⊢; rw [markBs, sumW, sumW, h, markL_len]

end Go.Proofs.Ytemfiglflbfocaa

namespace Go.Proofs.Ytemfiglflbfocaa
open Go.RowKit
set_option linter.unusedVariables false

end Go.Proofs.Ytemfiglflbfocaa

namespace Go.Proofs.Ytemfiglflbfocaa
open Go.RowKit
set_option linter.unusedVariables false

def zeroMb : MbC := ⟨false, [], none, 0⟩
/-- What a row reads after it was marked. -/
def markMs (k : Nat) : List MbC → List MbC
  | [] => []
  | x :: xs => ⟨((k : Int) % 3 == 0), markBs (k + 1) x.xs, x.a, x.c⟩ :: markMs (k + 1 + sumB x.xs) xs
theorem markMs_len : ∀ (k : Nat) (xs : List MbC), (markMs k xs).length = xs.length
  | _, [] => rfl
  | k, x :: xs => by rw [markMs, List.length_cons, List.length_cons, markMs_len _ xs]
theorem markMs_at : ∀ (k : Nat) (xs : List MbC) (j : Nat) (x : MbC), xs[j]? = some x → (markMs k xs)[j]? = some ⟨(((k + j + sumW (fun x : MbC => sumB x.xs) (xs.take j) : Nat) : Int) % 3 == 0), markBs (k + j + sumW (fun x : MbC => sumB x.xs) (xs.take j) + 1) x.xs, x.a, x.c⟩
  | _, [], j, x, h => by simp at h
  | k, y :: xs, 0, x, h => by
    simp only [List.getElem?_cons_zero, Option.some.injEq] at h
    subst h
    rw [markMs, List.getElem?_cons_zero]
    simp [sumW]
  | k, y :: xs, j + 1, x, h => by
    rw [List.getElem?_cons_succ] at h
    rw [markMs, List.getElem?_cons_succ, markMs_at _ xs j x h, List.take_succ_cons, sumW]
    have e : k + 1 + sumB y.xs + j + sumW (fun x : MbC => sumB x.xs) (xs.take j) = k + (j + 1) + (sumB y.xs + sumW (fun x : MbC => sumB x.xs) (xs.take j)) := by omega
    rw [e]
theorem markMs_snoc : ∀ (k : Nat) (xs : List MbC) (x : MbC), markMs k (xs ++ [x]) = markMs k xs ++ [⟨(((k + xs.length + sumW (fun x : MbC => sumB x.xs) xs : Nat) : Int) % 3 == 0), markBs (k + xs.length + sumW (fun x : MbC => sumB x.xs) xs + 1) x.xs, x.a, x.c⟩]
  | k, [], x => by simp [markMs, sumW]
  | k, y :: xs, x => by
    rw [List.cons_append, markMs, markMs_snoc _ xs x, markMs, List.cons_append, List.length_cons, sumW]
    have e : k + 1 + sumB y.xs + xs.length + sumW (fun x : MbC => sumB x.xs) xs = k + (xs.length + 1) + (sumB y.xs + sumW (fun x : MbC => sumB x.xs) xs) := by omega
    rw [e]
theorem markBs_sum (k : Nat) (xs : List BlkC) : sumB (markBs k xs) = sumB xs := by unfold sumB; rw [markBs_len, markBs_lens]
theorem markMs_fp : ∀ (k : Nat) (xs : List MbC), fpMIn (markMs k xs) = fpMIn xs
  | _, [] => rfl
  | k, x :: xs => by have h := markMs_fp (k + 1 + sumB x.xs) xs; unfold fpMIn at h ⊢; rw [markMs, List.flatMap_cons, List.flatMap_cons, h, fpBs, fpBs, markBs_fp]
theorem markMs_lens : ∀ (k : Nat) (xs : List MbC), lenM (markMs k xs) = lenM xs
  | _, [] => rfl
  | k, x :: xs => by have h := markMs_lens (k + 1 + sumB x.xs) xs; unfold lenM at h ⊢; rw [markMs, sumW, sumW, h, markBs_sum]

end Go.Proofs.Ytemfiglflbfocaa

namespace Go.Proofs.Ytemfiglflbfocaa
open Go.RowKit
set_option linter.unusedVariables false

def fpSt (A B : Option Addr) (ms : List MbC) : List Nat := obk A ++ fpMs B ms
theorem put6of7 {w : World} {g : Nat} {T : TypeId} {u0 u1 u2 u3 u4 u5 u6 : Value} (h : w.heap[g]? = some (.cells #[u0, u1, u2, u3, u4, u5, u6] T (0, 0))) (v0 v1 v2 v3 v4 v5 : Value) :
    ((((((w.setCell ⟨g, 0, none⟩ v0).setCell ⟨g, 1, none⟩ v1).setCell ⟨g, 2, none⟩ v2).setCell ⟨g, 3, none⟩ v3).setCell ⟨g, 4, none⟩ v4).setCell ⟨g, 5, none⟩ v5).heap[g]? = some (.cells #[v0, v1, v2, v3, v4, v5, u6] T (0, 0)) := by
  rw [heap_setCell_same _ g 5 _ _ _ (heap_setCell_same _ g 4 _ _ _ (heap_setCell_same _ g 3 _ _ _ (heap_setCell_same _ g 2 _ _ _ (heap_setCell_same _ g 1 _ _ _ (heap_setCell_same w g 0 _ _ _ h)))))]
  rfl
theorem wrote6 (w : World) (g : Nat) (v0 v1 v2 v3 v4 v5 : Value) : Wrote w ((((((w.setCell ⟨g, 0, none⟩ v0).setCell ⟨g, 1, none⟩ v1).setCell ⟨g, 2, none⟩ v2).setCell ⟨g, 3, none⟩ v3).setCell ⟨g, 4, none⟩ v4).setCell ⟨g, 5, none⟩ v5) [g] :=
  ((((((Wrote.refl w [g]).set (by simp) 0 v0).set (by simp) 1 v1).set (by simp) 2 v2).set (by simp) 3 v3).set (by simp) 4 v4).set (by simp) 5 v5
theorem wrote7 (w : World) (g : Nat) (v0 v1 v2 v3 v4 v5 v6 : Value) : Wrote w (((((((w.setCell ⟨g, 0, none⟩ v0).setCell ⟨g, 1, none⟩ v1).setCell ⟨g, 2, none⟩ v2).setCell ⟨g, 3, none⟩ v3).setCell ⟨g, 4, none⟩ v4).setCell ⟨g, 5, none⟩ v5).setCell ⟨g, 6, none⟩ v6) [g] := (wrote6 w g v0 v1 v2 v3 v4 v5).set (by simp) 6 v6
end Go.Proofs.Ytemfiglflbfocaa

namespace Go.Proofs.Ytemfiglflbfocaa
open Go.RowKit
set_option linter.unusedVariables false

theorem len_is {xs ys : List BlkC} (h : ys.map BlkC.is = xs.map BlkC.is) : ys.length = xs.length := by have := congrArg List.length h; rw [List.length_map, List.length_map] at this; exact this
theorem len_mis {xs ys : List MbC} (h : ys.map MbC.is = xs.map MbC.is) : ys.length = xs.length := by have := congrArg List.length h; rw [List.length_map, List.length_map] at this; exact this
def sumIs (d : List (Int × List Int)) : Nat := d.length + sumW (fun x => x.2.length) d
theorem sumB_is (xs : List BlkC) : sumB xs = sumIs (xs.map BlkC.is) := by
  unfold sumB lenB sumIs
  rw [List.length_map, sumW_map (fun x : BlkC => x.l.length) BlkC.is (fun x => x.2.length) (fun x => rfl) xs]
theorem sumB_same {xs ys : List BlkC} (h : ys.map BlkC.is = xs.map BlkC.is) : sumB ys = sumB xs := by rw [sumB_is, sumB_is, h]
def sumMIs (d : List (Bool × List (Int × List Int))) : Nat := d.length + sumW (fun x => sumIs x.2) d
theorem sumM_is (xs : List MbC) : sumM xs = sumMIs (xs.map MbC.is) := by
  unfold sumM lenM sumMIs
  rw [List.length_map, sumW_map (fun x : MbC => sumB x.xs) MbC.is (fun x => sumIs x.2) (fun x => sumB_is x.xs) xs]
theorem sumM_same {xs ys : List MbC} (h : ys.map MbC.is = xs.map MbC.is) : sumM ys = sumM xs := by rw [sumM_is, sumM_is, h]
theorem markBs_small {k : Nat} {xs : List BlkC} (hs : sumB xs ≤ 1048576) : sumB (markBs k xs) ≤ 1048576 := by rw [markBs_sum]; exact hs
theorem markMs_sum (k : Nat) (ms : List MbC) : sumM (markMs k ms) = sumM ms := by unfold sumM; rw [markMs_len, markMs_lens]
end Go.Proofs.Ytemfiglflbfocaa
