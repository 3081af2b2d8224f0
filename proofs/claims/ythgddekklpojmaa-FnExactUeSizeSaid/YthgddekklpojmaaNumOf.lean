/-
  Contracts of NumOf and of the test of bits, in both texts, and the law of NumOf. Condition: no more than 1048576 elements (the law asks no more).
-/
import Derived.Test.YthgddekklpojmaaVar
import Derived.Test.YthgddekklpojmaaInts
namespace Go.Proofs.Ythgddekklpojmaa
open Go.RowKit
set_option linter.unusedVariables false

def isBit (x : Int) : Bool := decide (x = 0) || decide (x = 1)
def isBits (l : List Int) : Bool := l.all isBit
/-- Bits as a number. -/
def binV (l : List Int) : Int := l.foldl (fun n b => 2 * n + b) 0
def binOk (l : List Int) : Bool := decide (l.length ≤ 48) && isBits l
/-- What NumOf gives. -/
def binR (l : List Int) : Int := if binOk l then binV l else 0
theorem isBit_cases {x : Int} (h : isBit x = true) : x = 0 ∨ x = 1 := by simpa [isBit] using h
theorem isBit_no {x : Int} (h : isBit x = false) : x ≠ 0 ∧ x ≠ 1 := by simpa [isBit] using h
theorem isBits_all (l : List Int) (h : ∀ t, t < l.length → isBit (l.getD t 0) = true) : isBits l = true := by
  unfold isBits
  rw [List.all_eq_true]
  intro x hx
  obtain ⟨t, ht, rfl⟩ := List.getElem_of_mem hx
  have := h t ht
  rw [List.getD_eq_getElem?_getD, List.getElem?_eq_getElem ht] at this
  exact this
theorem isBits_bad (l : List Int) (t : Nat) (ht : t < l.length) (h : isBit (l.getD t 0) = false) : isBits l = false := by
  unfold isBits
  rw [List.all_eq_false]
  refine ⟨l[t], List.getElem_mem ht, ?_⟩
  rw [List.getD_eq_getElem?_getD, List.getElem?_eq_getElem ht] at h
  simpa using h
theorem isBits_at (l : List Int) (h : isBits l = true) (t : Nat) (ht : t < l.length) : isBit (l.getD t 0) = true := by
  unfold isBits at h
  rw [List.all_eq_true] at h
  rw [List.getD_eq_getElem?_getD, List.getElem?_eq_getElem ht]
  exact h _ (List.getElem_mem ht)
theorem binV_snoc (l : List Int) (x : Int) : binV (l ++ [x]) = 2 * binV l + x := by simp [binV]
theorem take_snoc_i (l : List Int) (j : Nat) (h : j < l.length) : l.take (j + 1) = l.take j ++ [l.getD j 0] := by
  rw [List.take_succ_eq_append_getElem h, List.getD_eq_getElem?_getD, List.getElem?_eq_getElem h]
  rfl
theorem binV_range (l : List Int) : ∀ (j : Nat), j ≤ l.length → (∀ t, t < j → isBit (l.getD t 0) = true) → 0 ≤ binV (l.take j) ∧ binV (l.take j) < 2 ^ j
  | 0, _, _ => by simp [binV]
  | j + 1, hj, h => by
    obtain ⟨h0, h1⟩ := binV_range l j (by omega) fun t ht => h t (by omega)
    rw [take_snoc_i l j (by omega), binV_snoc, Int.pow_succ]
    rcases isBit_cases (h j (by omega)) with e | e <;> rw [e] <;> omega

set_option maxRecDepth 100000 in
set_option maxHeartbeats 1000000 in
theorem arebits_any (A : Option Addr) (ca : Nat) (l : List Int) (w : World) (hA : Ints w w.heap.size A l) :
    Calls Try.prog 47 #[.slice A l.length ca] w fun e w' => e = .returned (.bool (isBits l)) ∧ Below w.heap.size w w' := by
  obtain ⟨n, hn⟩ : ∃ n, n = l.length := ⟨_, rfl⟩
  have hnm := hA.1
  rw [← hn] at hnm ⊢
  have HN := Lib.hid hn; clear hn
  have HA := Lib.hid hA; clear hA
  go_enter Try.func47, Try.ntmps47
  go_wp2
  go_loopw [7] (fun i wr => ∃ j : Nat, j ≤ n ∧ (∀ t, t < j → isBit (l.getD t 0) = true) ∧ i = .int .i64 j ∧ Below w.heap.size w wr)
    (fun i _ => n - (intOf i).toNat)
  case atStart => exact ⟨0, Nat.zero_le _, fun t ht => absurd ht (by omega), rfl, Below.refl _ _⟩
  case round =>
    obtain ⟨j, hj, hpre, rfl, hbel⟩ := hrel
    have HE := Lib.hid hpre; clear hpre
    by_cases hlt : j < n
    · obtain ⟨ba, oa, rfl, ha1, ha2⟩ := HA.out.at j (by rw [← HN.out]; exact hlt)
      have c1 := ha2 j (by rw [← HN.out]; exact hlt)
      rw [← hbel.cell (p := ⟨ba, oa + j, none⟩) ha1] at c1
      clear ha2
      obtain ⟨x, hx⟩ : ∃ x, x = l.getD j 0 := ⟨_, rfl⟩
      rw [← hx] at c1
      have HX := Lib.hid hx; clear hx
      cases hb : isBit x with
      | true =>
        have HBB := Lib.hid hb
        rcases isBit_cases hb with rfl | rfl
        all_goals
          clear hb
          go_wp2
          go_roundw
          case rel =>
            refine ⟨j + 1, by omega, fun t ht => ?_, by go_num, hbel⟩
            by_cases htj : t = j
            · subst htj; rw [← HX.out]; exact HBB.out
            · exact HE.out t (by omega)
          case measure => simp [intOf]; omega
      | false =>
        obtain ⟨h0, h1⟩ := isBit_no hb
        have q0 : (x != 0) = true := by rw [bne_iff_ne]; exact h0
        have q1 : (x != 1) = true := by rw [bne_iff_ne]; exact h1
        have HBB := Lib.hid hb; clear hb h0 h1
        go_wp2
        go_ret
        refine ⟨?_, hbel⟩
        rw [isBits_bad l j (by rw [← HN.out]; exact hlt) (by rw [← HX.out]; exact HBB.out)]
        rfl
    · obtain rfl : j = n := by omega
      go_wp2
      go_ret
      refine ⟨?_, hbel⟩
      rw [isBits_all l (by rw [← HN.out]; exact HE.out)]
      rfl

theorem toints_big {len : Int} (h : ¬ 1048576 < len) : decide (1048576 < len) = false := by simpa using h

end Go.Proofs.Ythgddekklpojmaa
