/-
  FastUe: both texts answer alike; what it answers with the table of UeTable is what is read bit by bit. Condition: the string is no longer than 1048576 bytes (the laws ask no more).
-/
import Derived.Test.YthiplncceglnhaaFastQs
import Derived.Test.YthiplncceglnhaaFastSs
namespace Go.Proofs.Ythiplncceglnhaa
open Go.RowKit
set_option linter.unusedVariables false

/-- What FastUe answers where the table has an entry that is used. -/
def quickR (s : ByteArray) (a P : Nat) (l : EntL) : Value := (if a + (entAt l (fnX s a P)).1.toNat ≤ 8 * s.size then Value.tuple #[cw s (a + (entAt l (fnX s a P)).1.toNat) ((a + (entAt l (fnX s a P)).1.toNat + 7) / 8), .int .i64 (entAt l (fnX s a P)).2, .int .i64 0] else .tuple #[cw s a P, .int .i64 0, .int .i64 1])
theorem fast_quick (s : ByteArray) (a P : Nat) (hs : s.size ≤ 1048576) (hA : At s a P) (l : EntL) (hq : quick s a P l) :
    (∀ (A : Option Addr) (ca : Nat) (w : World), Ents w w.heap.size A l → Calls Try.prog 14 #[cw s a P, .slice A l.length ca] w fun e w' => e = .returned (quickR s a P l) ∧ Below w.heap.size w w') ∧ (∀ (A : Option Addr) (ca : Nat) (w : World), Ents w w.heap.size A l → Calls Try.prog 9 #[cw s a P, .slice A l.length ca] w fun e w' => e = .returned (quickR s a P l) ∧ Below w.heap.size w w') := by
  obtain ⟨hl, hz1, hz9⟩ := hq
  have hA2 := (pkP_at s a P 9 hA).2
  obtain ⟨S, hS⟩ : ∃ S : Nat, (entAt l (fnX s a P)).1 = (S : Int) := ⟨(entAt l (fnX s a P)).1.toNat, by omega⟩
  have hS9 : S ≤ 9 := by omega
  have hA3 := (pkP_at s a (pkP s a P 9) S hA2).2
  have hhas := pkP_has s a (pkP s a P 9) S hA2 (by omega)
  have hK1 := spec_skip_in s a (pkP s a P 9) S hs hA2 (by omega)
  have hK2 := impl_skip_in s a (pkP s a P 9) S hs hA2 (by omega)
  have he : entAt l (fnX s a P) = ((S : Int), (entAt l (fnX s a P)).2) := by rw [← hS]
  unfold quickR
  rw [hS, Int.toNat_natCast]
  obtain ⟨Q, hQ⟩ : ∃ Q, Q = pkP s a (pkP s a P 9) S := ⟨_, rfl⟩
  rw [← hQ] at hhas hA3
  by_cases hin : a + S ≤ 8 * s.size
  · rw [if_pos hin]
    have hin2 := hhas.2 hin
    have hA4 : At s (a + S) Q := by obtain ⟨b1, b2, b3⟩ := hA3; exact ⟨b1, by omega, by omega⟩
    have e1 : skR s a (pkP s a (pkP s a P 9) S) S = .tuple #[cw s (a + S) Q, .bool true] := by
      rw [← hQ, skR, if_pos hin2, decide_eq_true hin2]
    refine ⟨fun A ca w hE => ?_, fun A ca w hE => ?_⟩
    · have h := spec_fast_in s a P hs hA A ca l S (entAt l (fnX s a P)).2 (fnX s a P) rfl hl he (by omega) (by omega) true _ _ _ _ _ _ (Lib.hid (fun w => by have h := hK1 w; rw [e1] at h; exact h)) (Lib.hid (fun _ w => spec_settle_in s (a + S) Q hs hA4 w)) w hE
      rw [if_pos rfl] at h
      rw [hl]
      exact h
    · have h := impl_fast_in s a P hs hA A ca l S (entAt l (fnX s a P)).2 (fnX s a P) rfl hl he (by omega) (by omega) true _ _ _ _ _ _ (Lib.hid (fun w => by have h := hK2 w; rw [e1] at h; exact h)) (Lib.hid (fun _ w => impl_settle_in s (a + S) Q hs hA4 w)) w hE
      rw [if_pos rfl] at h
      rw [hl]
      exact h
  · rw [if_neg hin]
    have hin2 : ¬ S ≤ 8 * Q - a := fun h => hin (hhas.1 h)
    have e1 : skR s a (pkP s a (pkP s a P 9) S) S = .tuple #[cw s a Q, .bool false] := by
      rw [← hQ, skR, if_neg hin2, decide_eq_false hin2]
    refine ⟨fun A ca w hE => ?_, fun A ca w hE => ?_⟩
    · have h := spec_fast_in s a P hs hA A ca l S (entAt l (fnX s a P)).2 (fnX s a P) rfl hl he (by omega) (by omega) false _ _ _ 0 0 0 (Lib.hid (fun w => by have h := hK1 w; rw [e1] at h; exact h)) (Lib.hid (fun h => by cases h)) w hE
      rw [if_neg (by decide)] at h
      rw [hl]
      exact h
    · have h := impl_fast_in s a P hs hA A ca l S (entAt l (fnX s a P)).2 (fnX s a P) rfl hl he (by omega) (by omega) false _ _ _ 0 0 0 (Lib.hid (fun w => by have h := hK2 w; rw [e1] at h; exact h)) (Lib.hid (fun h => by cases h)) w hE
      rw [if_neg (by decide)] at h
      rw [hl]
      exact h

theorem quickR_form (s : ByteArray) (a P : Nat) (l : EntL) : ∃ q y x n er : Int, quickR s a P l = .tuple #[.agg #[.string s, .int .i64 q, .int .i64 y, .int .i64 x], .int .i64 n, .int .i64 er] := by
  unfold quickR
  split
  · exact ⟨_, _, _, _, _, rfl⟩
  · exact ⟨_, _, _, _, _, rfl⟩

/-- Both texts answer alike. -/
theorem fast_both (s : ByteArray) (p wd h : Int) (hs : s.size ≤ 1048576) (l : EntL) : ∃ q y x n er : Int,
    (∀ (A : Option Addr) (ca : Nat) (w : World), Ents w w.heap.size A l → Calls Try.prog 14 #[.agg #[.string s, .int .i64 p, .int .i64 wd, .int .i64 h], .slice A l.length ca] w fun e w' => e = .returned (.tuple #[.agg #[.string s, .int .i64 q, .int .i64 y, .int .i64 x], .int .i64 n, .int .i64 er]) ∧ Below w.heap.size w w') ∧
    (∀ (A : Option Addr) (ca : Nat) (w : World), Ents w w.heap.size A l → Calls Try.prog 9 #[.agg #[.string s, .int .i64 p, .int .i64 wd, .int .i64 h], .slice A l.length ca] w fun e w' => e = .returned (.tuple #[.agg #[.string s, .int .i64 q, .int .i64 y, .int .i64 x], .int .i64 n, .int .i64 er]) ∧ Below w.heap.size w w') := by
  cases hk : ckOk s p wd h with
  | false => exact ⟨p, wd, h, 0, 1, fun A ca w _ => spec_fast_out s p wd h A l.length ca hs hk w, fun A ca w _ => impl_fast_out s p wd h A l.length ca hs hk w⟩
  | true =>
    obtain ⟨a, P, hA, rfl, rfl, rfl⟩ := ckOk_at s p wd h hk
    by_cases hq : quick s a P l
    · obtain ⟨q, y, x, n, er, hR⟩ := quickR_form s a P l
      obtain ⟨h1, h2⟩ := fast_quick s a P hs hA l hq
      rw [hR] at h1 h2
      exact ⟨q, y, x, n, er, h1, h2⟩
    · obtain ⟨q, y, x, n, er, hR⟩ := fuR_form s a P
      refine ⟨q, y, x, n, er, fun A ca w hE => ?_, fun A ca w hE => ?_⟩
      · have h := spec_fast_slow s a P hs hA A ca l hq w hE
        rw [hR] at h
        exact h
      · have h := impl_fast_slow s a P hs hA A ca l hq w hE
        rw [hR] at h
        exact h
end Go.Proofs.Ythiplncceglnhaa
