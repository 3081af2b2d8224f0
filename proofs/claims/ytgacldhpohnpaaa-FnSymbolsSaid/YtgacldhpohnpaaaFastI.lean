/-
  Contracts of the program's FastUe and FastSym at a valid cache. Condition: the string is no longer than 1048576 bytes (the laws ask no more).
-/
import Derived.Test.YtgacldhpohnpaaaSymF
namespace Go.Proofs.Ytgacldhpohnpaaa
open Go.RowKit
set_option linter.unusedVariables false

theorem takeR_form (s : ByteArray) (a P S : Nat) (n : Int) : ∃ q y x m er : Int, takeR s a P S n = .tuple #[.agg #[.string s, .int .i64 q, .int .i64 y, .int .i64 x], .int .i64 m, .int .i64 er] := by
  unfold takeR
  split
  · exact ⟨_, _, _, _, _, rfl⟩
  · exact ⟨_, _, _, _, _, rfl⟩

theorem impl_fast_quick (s : ByteArray) (a P : Nat) (hs : s.size ≤ 1048576) (hA : At s a P) (l : EntL) (hq : quick s a P l) (A : Option Addr) (ca : Nat) (w : World) (hE : Ents w w.heap.size A l) :
    Calls Try.prog 15 #[cw s a P, .slice A l.length ca] w fun e w' => e = .returned (takeR s a P (entAt l (fnX s a P)).1.toNat (entAt l (fnX s a P)).2) ∧ Below w.heap.size w w' := by
  obtain ⟨hl, hz1, hz9⟩ := hq
  obtain ⟨S, hS⟩ : ∃ S : Nat, (entAt l (fnX s a P)).1 = (S : Int) := ⟨(entAt l (fnX s a P)).1.toNat, by omega⟩
  rw [hS, Int.toNat_natCast]
  obtain ⟨n, hn⟩ : ∃ n, n = (entAt l (fnX s a P)).2 := ⟨_, rfl⟩
  rw [← hn]
  obtain ⟨q, y, x, m, er, hR⟩ := takeR_form s a P S n
  rw [hR]
  refine impl_ue_take s _ _ _ (S : Int) n q y x m er A ca l (Lib.hid fun w => ?_) (Lib.hid fun w hE => ?_) (Lib.hid fun w => ?_) w hE
  · have h := impl_cacheok_any s (P : Int) (rdN s a (8 * P - a) : Int) ((8 * P - a : Nat) : Int) hs w
    rw [ckOk_of s a P hA] at h
    exact h
  · have h := ahead_in9 s _ _ _ _ _ _ (fnX s a P) (fnX_eq s a P).2 (Lib.hid fun w => by
      have h := impl_peek_in s a P 9 hs hA (by decide) w
      rw [(fnX_eq s a P).1] at h
      exact h) A ca l hl w hE
    rw [hS, ← hn, show (decide (1 ≤ (S : Int)) && decide ((S : Int) ≤ 9)) = true by simp; omega] at h
    rw [hl]
    exact h
  · have h := take_any s a P S n hs hA (by omega) w
    rw [hR] at h
    exact h

theorem impl_fast_slow (s : ByteArray) (a P : Nat) (hs : s.size ≤ 1048576) (hA : At s a P) (A : Option Addr) (ca : Nat) (l : EntL) (hq : ¬ quick s a P l) (w : World) (hE : Ents w w.heap.size A l) :
    Calls Try.prog 15 #[cw s a P, .slice A l.length ca] w fun e w' => e = .returned (fuR s a P) ∧ Below w.heap.size w w' := by
  have key : ∃ z n : Int, ∀ w, Ents w w.heap.size A l → Calls Try.prog 66 #[cw s a P, .slice A l.length ca, .int .i64 9] w fun e w' => e = .returned (.tuple #[.agg #[.int .i64 z, .int .i64 n], .bool false]) ∧ Below w.heap.size w w' := by
    by_cases hl : l.length = 512
    · refine ⟨(entAt l (fnX s a P)).1, (entAt l (fnX s a P)).2, fun w hE => ?_⟩
      have h := ahead_in9 s _ _ _ _ _ _ (fnX s a P) (fnX_eq s a P).2 (Lib.hid fun w => by
        have h := impl_peek_in s a P 9 hs hA (by decide) w
        rw [(fnX_eq s a P).1] at h
        exact h) A ca l hl w hE
      have e : (decide (1 ≤ (entAt l (fnX s a P)).1) && decide ((entAt l (fnX s a P)).1 ≤ 9)) = false := by
        simp only [Bool.and_eq_false_iff, decide_eq_false_iff_not]
        by_cases h2 : 1 ≤ (entAt l (fnX s a P)).1
        · right; intro h3; exact hq ⟨hl, h2, h3⟩
        · left; exact h2
      rw [e] at h
      rw [hl]
      exact h
    · exact ⟨0, 0, fun w _ => ahead_no9 s _ _ _ A l.length ca hl w⟩
  obtain ⟨z, n, key⟩ := key
  have HO : Hid (∀ w, Calls Try.prog 65 #[cw s a P] w fun e w' => e = .returned (.bool true) ∧ Below w.heap.size w w') := Lib.hid fun w => by
    have h := impl_cacheok_any s (P : Int) (rdN s a (8 * P - a) : Int) ((8 * P - a : Nat) : Int) hs w
    rw [ckOk_of s a P hA] at h
    exact h
  obtain ⟨q, y, x, m, er, hR⟩ := fuR_form s a P
  rw [hR]
  refine impl_ue_slow s _ _ _ z n q y x m er A ca l HO (Lib.hid key) (Lib.hid fun w => ?_) w hE
  have h := readat_any s a P hs hA w
  rw [hR] at h
  exact h

theorem impl_symq_quick (s : ByteArray) (a P : Nat) (hs : s.size ≤ 1048576) (hA : At s a P) (l : EntL) (hq : quick7 s a P l) (A : Option Addr) (ca : Nat) (w : World) (hE : Ents w w.heap.size A l) :
    Calls Try.prog 38 #[cw s a P, .slice A l.length ca] w fun e w' => e = .returned (takeR s a P (entAt l (fnY s a P)).1.toNat (entAt l (fnY s a P)).2) ∧ Below w.heap.size w w' := by
  obtain ⟨hl, hz1, hz9⟩ := hq
  obtain ⟨S, hS⟩ : ∃ S : Nat, (entAt l (fnY s a P)).1 = (S : Int) := ⟨(entAt l (fnY s a P)).1.toNat, by omega⟩
  rw [hS, Int.toNat_natCast]
  obtain ⟨n, hn⟩ : ∃ n, n = (entAt l (fnY s a P)).2 := ⟨_, rfl⟩
  rw [← hn]
  obtain ⟨q, y, x, m, er, hR⟩ := takeR_form s a P S n
  rw [hR]
  refine impl_sym_take s _ _ _ (S : Int) n q y x m er A ca l (Lib.hid fun w => ?_) (Lib.hid fun w hE => ?_) (Lib.hid fun w => ?_) w hE
  · have h := impl_cacheok_any s (P : Int) (rdN s a (8 * P - a) : Int) ((8 * P - a : Nat) : Int) hs w
    rw [ckOk_of s a P hA] at h
    exact h
  · have h := ahead_in7 s _ _ _ _ _ _ (fnY s a P) (fnY_eq s a P).2 (Lib.hid fun w => by
      have h := impl_peek_in s a P 7 hs hA (by decide) w
      rw [(fnY_eq s a P).1] at h
      exact h) A ca l hl w hE
    rw [hS, ← hn, show (decide (1 ≤ (S : Int)) && decide ((S : Int) ≤ 7)) = true by simp; omega] at h
    rw [hl]
    exact h
  · have h := take_any s a P S n hs hA (by omega) w
    rw [hR] at h
    exact h

theorem impl_symq_none (s : ByteArray) (a P : Nat) (hs : s.size ≤ 1048576) (hA : At s a P) (A : Option Addr) (ca : Nat) (l : EntL) (hq : ¬ quick7 s a P l) (w : World) (hE : Ents w w.heap.size A l) :
    Calls Try.prog 38 #[cw s a P, .slice A l.length ca] w fun e w' => e = .returned (.tuple #[cw s a P, .int .i64 0, .int .i64 4]) ∧ Below w.heap.size w w' := by
  have key : ∃ z n : Int, ∀ w, Ents w w.heap.size A l → Calls Try.prog 66 #[cw s a P, .slice A l.length ca, .int .i64 7] w fun e w' => e = .returned (.tuple #[.agg #[.int .i64 z, .int .i64 n], .bool false]) ∧ Below w.heap.size w w' := by
    by_cases hl : l.length = 128
    · refine ⟨(entAt l (fnY s a P)).1, (entAt l (fnY s a P)).2, fun w hE => ?_⟩
      have h := ahead_in7 s _ _ _ _ _ _ (fnY s a P) (fnY_eq s a P).2 (Lib.hid fun w => by
        have h := impl_peek_in s a P 7 hs hA (by decide) w
        rw [(fnY_eq s a P).1] at h
        exact h) A ca l hl w hE
      have e : (decide (1 ≤ (entAt l (fnY s a P)).1) && decide ((entAt l (fnY s a P)).1 ≤ 7)) = false := by
        simp only [Bool.and_eq_false_iff, decide_eq_false_iff_not]
        by_cases h2 : 1 ≤ (entAt l (fnY s a P)).1
        · right; intro h3; exact hq ⟨hl, h2, h3⟩
        · left; exact h2
      rw [e] at h
      rw [hl]
      exact h
    · exact ⟨0, 0, fun w _ => ahead_no7 s _ _ _ A l.length ca hl w⟩
  obtain ⟨z, n, key⟩ := key
  have HO : Hid (∀ w, Calls Try.prog 65 #[cw s a P] w fun e w' => e = .returned (.bool true) ∧ Below w.heap.size w w') := Lib.hid fun w => by
    have h := impl_cacheok_any s (P : Int) (rdN s a (8 * P - a) : Int) ((8 * P - a : Nat) : Int) hs w
    rw [ckOk_of s a P hA] at h
    exact h
  exact impl_sym_none s _ _ _ z n A ca l HO (Lib.hid key) w hE

theorem impl_fast_out (s : ByteArray) (p wd h : Int) (A : Option Addr) (len ca : Nat) (hs : s.size ≤ 1048576) (hno : ckOk s p wd h = false) (w : World) :
    Calls Try.prog 15 #[cv s p wd h, .slice A len ca] w fun e w' => e = .returned (.tuple #[cv s p wd h, .int .i64 0, .int .i64 1]) ∧ Below w.heap.size w w' :=
  impl_ue_out s p wd h A len ca (Lib.hid fun w => by have h := impl_cacheok_any s p wd h hs w; rw [hno] at h; exact h) w
theorem impl_symq_out (s : ByteArray) (p wd h : Int) (A : Option Addr) (len ca : Nat) (hs : s.size ≤ 1048576) (hno : ckOk s p wd h = false) (w : World) :
    Calls Try.prog 38 #[cv s p wd h, .slice A len ca] w fun e w' => e = .returned (.tuple #[cv s p wd h, .int .i64 0, .int .i64 1]) ∧ Below w.heap.size w w' :=
  impl_sym_out s p wd h A len ca (Lib.hid fun w => by have h := impl_cacheok_any s p wd h hs w; rw [hno] at h; exact h) w
end Go.Proofs.Ytgacldhpohnpaaa
