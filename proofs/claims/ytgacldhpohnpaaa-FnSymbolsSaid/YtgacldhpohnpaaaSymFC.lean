/-
  FastSym: both texts answer alike. Condition: the string is no longer than 1048576 bytes (the laws ask no more).
-/
import Derived.Test.YtgacldhpohnpaaaFastI
namespace Go.Proofs.Ytgacldhpohnpaaa
open Go.RowKit
set_option linter.unusedVariables false

theorem spec_symq_quick (s : ByteArray) (a P : Nat) (hs : s.size ≤ 1048576) (hA : At s a P) (l : EntL) (hq : quick7 s a P l) :
    ∀ (A : Option Addr) (ca : Nat) (w : World), Ents w w.heap.size A l → Calls Try.prog 57 #[cw s a P, .slice A l.length ca] w fun e w' => e = .returned (takeR s a P (entAt l (fnY s a P)).1.toNat (entAt l (fnY s a P)).2) ∧ Below w.heap.size w w' := by
  obtain ⟨hl, hz1, hz9⟩ := hq
  have hA2 := (pkP_at s a P 7 hA).2
  obtain ⟨S, hS⟩ : ∃ S : Nat, (entAt l (fnY s a P)).1 = (S : Int) := ⟨(entAt l (fnY s a P)).1.toNat, by omega⟩
  have hS9 : S ≤ 7 := by omega
  have hA3 := (pkP_at s a (pkP s a P 7) S hA2).2
  have hhas := pkP_has s a (pkP s a P 7) S hA2 (by omega)
  have hK1 := spec_skip_in s a (pkP s a P 7) S hs hA2 (by omega)
  have he : entAt l (fnY s a P) = ((S : Int), (entAt l (fnY s a P)).2) := by rw [← hS]
  unfold takeR
  rw [hS, Int.toNat_natCast]
  obtain ⟨Q, hQ⟩ : ∃ Q, Q = pkP s a (pkP s a P 7) S := ⟨_, rfl⟩
  rw [← hQ] at hhas hA3
  by_cases hin : a + S ≤ 8 * s.size
  · rw [if_pos hin]
    have hin2 := hhas.2 hin
    have hA4 : At s (a + S) Q := by obtain ⟨b1, b2, b3⟩ := hA3; exact ⟨b1, by omega, by omega⟩
    have e1 : skR s a (pkP s a (pkP s a P 7) S) S = .tuple #[cw s (a + S) Q, .bool true] := by
      rw [← hQ, skR, if_pos hin2, decide_eq_true hin2]
    intro A ca w hE
    have h := spec_sym_in s a P hs hA A ca l S (entAt l (fnY s a P)).2 (fnY s a P) rfl hl he (by omega) (by omega) true _ _ _ _ _ _ (Lib.hid (fun w => by have h := hK1 w; rw [e1] at h; exact h)) (Lib.hid (fun _ w => spec_settle_in s (a + S) Q hs hA4 w)) w hE
    rw [if_pos rfl] at h
    rw [hl]
    exact h
  · rw [if_neg hin]
    have hin2 : ¬ S ≤ 8 * Q - a := fun h => hin (hhas.1 h)
    have e1 : skR s a (pkP s a (pkP s a P 7) S) S = .tuple #[cw s a Q, .bool false] := by
      rw [← hQ, skR, if_neg hin2, decide_eq_false hin2]
    intro A ca w hE
    have h := spec_sym_in s a P hs hA A ca l S (entAt l (fnY s a P)).2 (fnY s a P) rfl hl he (by omega) (by omega) false _ _ _ 0 0 0 (Lib.hid (fun w => by have h := hK1 w; rw [e1] at h; exact h)) (Lib.hid (fun h => by cases h)) w hE
    rw [if_neg (by decide)] at h
    rw [hl]
    exact h


/-- Both texts answer alike. -/
theorem symq_both (s : ByteArray) (p wd h : Int) (hs : s.size ≤ 1048576) (l : EntL) : ∃ q y x n er : Int,
    (∀ (A : Option Addr) (ca : Nat) (w : World), Ents w w.heap.size A l → Calls Try.prog 57 #[.agg #[.string s, .int .i64 p, .int .i64 wd, .int .i64 h], .slice A l.length ca] w fun e w' => e = .returned (.tuple #[.agg #[.string s, .int .i64 q, .int .i64 y, .int .i64 x], .int .i64 n, .int .i64 er]) ∧ Below w.heap.size w w') ∧
    (∀ (A : Option Addr) (ca : Nat) (w : World), Ents w w.heap.size A l → Calls Try.prog 38 #[.agg #[.string s, .int .i64 p, .int .i64 wd, .int .i64 h], .slice A l.length ca] w fun e w' => e = .returned (.tuple #[.agg #[.string s, .int .i64 q, .int .i64 y, .int .i64 x], .int .i64 n, .int .i64 er]) ∧ Below w.heap.size w w') := by
  cases hk : ckOk s p wd h with
  | false => exact ⟨p, wd, h, 0, 1, fun A ca w _ => spec_sym_out s p wd h A l.length ca hs hk w, fun A ca w _ => impl_symq_out s p wd h A l.length ca hs hk w⟩
  | true =>
    obtain ⟨a, P, hA, rfl, rfl, rfl⟩ := ckOk_at s p wd h hk
    by_cases hq : quick7 s a P l
    · obtain ⟨q, y, x, n, er, hR⟩ := takeR_form s a P (entAt l (fnY s a P)).1.toNat (entAt l (fnY s a P)).2
      refine ⟨q, y, x, n, er, fun A ca w hE => ?_, fun A ca w hE => ?_⟩
      · have h := spec_symq_quick s a P hs hA l hq A ca w hE
        rw [hR] at h
        exact h
      · have h := impl_symq_quick s a P hs hA l hq A ca w hE
        rw [hR] at h
        exact h
    · exact ⟨_, _, _, 0, 4, fun A ca w hE => spec_sym_none s a P hs hA A ca l hq w hE, fun A ca w hE => impl_symq_none s a P hs hA A ca l hq w hE⟩
end Go.Proofs.Ytgacldhpohnpaaa
