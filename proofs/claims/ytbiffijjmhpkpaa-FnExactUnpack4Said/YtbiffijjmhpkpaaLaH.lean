/-
  Chapter 16: the contract of the program's Pack4, which goes over slices.Backward. Condition: the row is any that a slice can hold.
-/
import Derived.RangeFuncNested
import Derived.RangeFuncBound
import Derived.RangeFuncCalls
import Derived.RangeFuncLeaves
import Derived.Shelf.Abstract
import Derived.Shelf.RegionOpen
import Derived.WalkKit
import Derived.OwnWalkIn
import Derived.TacticsInMore
import Derived.LoopNIn
import Derived.LoopIn
import Derived.RangeFuncBox
import Derived.Test.YtbiffijjmhpkpaaLaP
namespace Go.Proofs.Ytbiffijjmhpkpaa
open Go.RowKit
attribute [local go_sem] Oper.semAt_some
set_option linter.unusedVariables false

/-- The first k numbers below four, as such. -/
def fiF (k : Nat) : List (Fin 4) := (List.finRange 4).take k
theorem fiF_len {k : Nat} (h : k ≤ 4) : (fiF k).length = k := by rw [fiF, List.length_take, List.length_finRange]; omega
theorem fiF_succ {k : Nat} (h : k < 4) : fiF (k + 1) = fiF k ++ [⟨k, h⟩] := by
  rw [fiF, List.take_succ_eq_append_getElem (by rw [List.length_finRange]; exact h), List.getElem_finRange]
  rfl
theorem fiF_all : fiF 4 = List.finRange 4 := List.take_of_length_le (by rw [List.length_finRange]; exact Nat.le_refl 4)
/-- The number that a round is handed: the row from behind. -/
def atB (l : List Int) (x : Fin 4) : Int := l.getD (3 - x.1) 0
/-- What a round of the loop keeps: the iterator's own box and the row. -/
def KpC (Bs p off : Nat) (W W' : World) : Prop := W'.cell? ⟨Bs, 0, none⟩ = W.cell? ⟨Bs, 0, none⟩ ∧ ∀ j, j < 4 → W'.cell? ⟨p, off + j, none⟩ = W.cell? ⟨p, off + j, none⟩
theorem kpc_t {Bs p off : Nat} {A B C : World} (h : KpC Bs p off A B) (k : KpC Bs p off B C) : KpC Bs p off A C := ⟨k.1.trans h.1, fun j hj => (k.2 j hj).trans (h.2 j hj)⟩
theorem kpc_b {Bs p off n : Nat} (h1 : Bs < n) (h2 : p < n) (W : World) (l : Nat) (o' : Obj) (hl : n ≤ l) : KpC Bs p off W (W.putObj l o') :=
  ⟨World.cell?_of_block (World.putObj_heap_other (by simp; omega)), fun j _ => World.cell?_of_block (World.putObj_heap_other (by simp; omega))⟩
theorem kpc_set {Bs p off b : Nat} (h1 : b ≠ Bs) (h2 : b ≠ p) (W : World) (v : Value) : KpC Bs p off W (W.setCell ⟨b, 0, none⟩ v) :=
  ⟨World.cell?_setCell_other W _ _ v (show (⟨b, 0, none⟩ : Addr) ≠ ⟨Bs, 0, none⟩ from fun e => h1 (by injection e)), fun j _ => World.cell?_setCell_other W _ _ v (show (⟨b, 0, none⟩ : Addr) ≠ ⟨p, off + j, none⟩ from fun e => h2 (by injection e))⟩

set_option maxRecDepth 100000 in
set_option maxHeartbeats 8000000 in
theorem back1 (n : Nat) (hn : 1 ≤ n) (l Bs p off cap : Nat) (xs : List Int) (J Jx : List (Fin 4) → World → Prop)
    (hY : ∀ pre x W, J pre W → pre.length < 4 → YieldAt Fence.wide (n - 1) Try.prog l #[.int .i64 ((3 - x.1 : Nat) : Int), .int .i64 (atB xs x)] W fun e W' =>
      (e = .returned (.bool true) ∧ J (pre ++ [x]) W' ∧ KpC Bs p off W W') ∨ (e = .returned (.bool false) ∧ Jx (pre ++ [x]) W'))
    (W : World) (hBs : W.cell? ⟨Bs, 0, none⟩ = some (.slice (some ⟨p, off, none⟩) 4 cap)) (hc : ∀ j, j < 4 → W.cell? ⟨p, off + j, none⟩ = some (.int .i64 (xs.getD j 0))) (h0 : J [] W) :
    CallsIn Fence.wide n Try.prog 41 #[.func (.yield l) #[] #[], .pointer (some ⟨Bs, 0, none⟩)] W fun e W' => (∃ v, e = .returned v) ∧
      ((∃ ys, ys = List.finRange 4 ∧ J ys W') ∨ (∃ pre : List (Fin 4), True ∧ Jx pre W')) := by
  refine callsIn_of_wp Try.func41 rfl trivial ?_ rfl
  simp only [Try.ntmps41, List.size_toArray, List.length_cons, List.length_nil, Nat.reduceAdd, Nat.reduceSub, Array.replicate_succ, Array.replicate_zero, List.push_toArray, List.append_toArray, List.nil_append, List.cons_append]
  gi_wp2
  gi_loopw [3] (fun i wr => ∃ (k : Nat) (i0 : Int), k ≤ 4 ∧ i0 = 3 - (k : Int) ∧ i = .int .i64 i0 ∧ J (fiF k) wr ∧ wr.cell? ⟨Bs, 0, none⟩ = some (.slice (some ⟨p, off, none⟩) 4 cap) ∧ (∀ j, j < 4 → wr.cell? ⟨p, off + j, none⟩ = some (.int .i64 (xs.getD j 0))))
    (fun i _ => (intOf i + 1).toNat)
  case atStart => exact ⟨0, 3, Nat.zero_le _, rfl, rfl, h0, hBs, hc⟩
  case round =>
    obtain ⟨k, i0, hk, hi0, rfl, hJs, hs, hb⟩ := hrel
    by_cases hlt : k < 4
    · obtain ⟨fn, tmps, assign, body, hy, hR⟩ := hY _ ⟨k, hlt⟩ wr hJs (by rw [fiF_len hk]; exact hlt)
      dsimp only at hy
      have hnx := fiF_succ hlt
      rw [← hnx] at hR
      obtain ⟨U, hU⟩ : ∃ U, U = fiF (k + 1) := ⟨_, rfl⟩
      rw [← hU] at hR
      have HU := Lib.hid hU
      have HB := Lib.hid hb
      have cl := hb (3 - k) (by omega)
      have e9 : atB xs ⟨k, hlt⟩ = xs.getD (3 - k) 0 := rfl
      rw [e9] at hy
      obtain ⟨z, hz⟩ : ∃ z, z = xs.getD (3 - k) 0 := ⟨_, rfl⟩
      have hq : ((3 - k : Nat) : Int) = i0 := by omega
      rw [← hz, hq] at hy
      rw [← hz] at cl
      clear hnx hY hJs hU h0 hBs hc hb e9 hz hq
      rcases (show (k = 0 ∧ i0 = 3) ∨ (k = 1 ∧ i0 = 2) ∨ (k = 2 ∧ i0 = 1) ∨ (k = 3 ∧ i0 = 0) by omega) with ⟨rfl, rfl⟩ | ⟨rfl, rfl⟩ | ⟨rfl, rfl⟩ | ⟨rfl, rfl⟩
      all_goals
        simp only [Nat.reduceSub, Nat.add_zero] at cl ⊢
        clear hi0
        gi_wp2
        refine hR.mono ?_
        rintro e W3 (⟨rfl, hJ3, hk3⟩ | ⟨rfl, hJx3⟩)
      all_goals first
        | (have hs3 := hk3.1.trans hs
           have hb3 := fun j hj => (hk3.2 j hj).trans (HB.out j hj)
           have HB3 := Lib.hid hb3
           clear hb3
           gi_wp2
           go_roundw
           case rel => exact ⟨_, _, hlt, by simp, rfl, by rw [← HU.out]; exact hJ3, hs3, HB3.out⟩
           case measure => simp [intOf])
        | (gi_wp2
           refine bodyPost_ret (results_none rfl _ _ _) rfl ?_
           exact ⟨⟨_, rfl⟩, .inr ⟨_, trivial, hJx3⟩⟩)
        | fail
    · obtain rfl : k = 4 := by omega
      obtain rfl : i0 = -1 := by omega
      rw [fiF_all] at hJs
      gi_wp2
      go_end0
      exact ⟨⟨_, rfl⟩, .inl ⟨_, rfl, hJs⟩⟩
theorem back_stops (n : Nat) (hn : 1 ≤ n) (Bs p off cap : Nat) (xs : List Int) (w : World) (hs : Bs < w.heap.size) (hp : p < w.heap.size)
    (hBs : w.cell? ⟨Bs, 0, none⟩ = some (.slice (some ⟨p, off, none⟩) 4 cap)) (hc : ∀ j, j < 4 → w.cell? ⟨p, off + j, none⟩ = some (.int .i64 (xs.getD j 0))) :
    SeqStopsK Fence.wide n Try.prog 41 #[.pointer (some ⟨Bs, 0, none⟩)] (fun x : Fin 4 => #[.int .i64 ((3 - x.1 : Nat) : Int), .int .i64 (atB xs x)]) (KpC Bs p off) (fun xs => xs = List.finRange 4) (fun _ => True) 4 w := fun l J Jx W hW hJ hJx hY h0 =>
  back1 n hn l Bs p off cap xs J Jx hY W ((hW.cell (p := ⟨Bs, 0, none⟩) hs).trans hBs) (fun j hj => (hW.cell (p := ⟨p, off + j, none⟩) hp).trans (hc j hj)) h0
end Go.Proofs.Ytbiffijjmhpkpaa
