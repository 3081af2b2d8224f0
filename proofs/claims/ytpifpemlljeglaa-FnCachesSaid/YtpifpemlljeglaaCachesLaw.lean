/-
  The walk of the law on caches, its cases joined. No condition.
-/
import Derived.Test.YtpifpemlljeglaaCaches
import Derived.Test.YtpifpemlljeglaaCacheLaws
namespace Go.Proofs.Ytpifpemlljeglaa
open Go.RowKit
set_option linter.unusedVariables false

set_option maxRecDepth 100000 in
set_option maxHeartbeats 400000 in
theorem caches_big (a : Option Addr) (cap len : Nat) (h : 1048576 < len) (hm : len ≤ 9223372036854775807) (w : World) :
    Calls Try.prog 3 #[.slice a len cap] w fun e w' => e = .returned (.bool true) ∧ Below w.heap.size w w' := by
  have hq : decide (1048576 < (len : Int)) = true := by simp; omega
  have BG := Lib.hid (big_any a len cap hm)
  rw [hq] at BG
  go_enter Try.func3, Try.ntmps3
  go_wp2_with fail
  refine (BG.out _).mono ?_
  rintro e w' ⟨rfl, rfl⟩
  go_wp2
  go_ret
  exact ⟨rfl, Below.refl _ _⟩

/-- The cache at the end of its byte. -/
theorem at_settled (s : ByteArray) (a P : Nat) (hA : At s a P) : At s a ((a + 7) / 8) := by
  obtain ⟨h1, h2, h3⟩ := hA
  exact ⟨by omega, by omega, by omega⟩
theorem at_skip (s : ByteArray) (a Q m : Nat) (hA : At s a Q) (h : m ≤ 8 * Q - a) : At s (a + m) Q := by
  obtain ⟨h1, h2, h3⟩ := hA
  exact ⟨h1, by omega, by omega⟩

/-- The law's own walk. -/
theorem fnCaches_walk (a0 : Option Addr) (len cap : Nat) (zs : List Int) (w : World) (h : IsRow .u8 w a0 len cap zs) :
    Calls Try.prog 3 #[.slice a0 len cap] w fun e w' => e = .returned (.bool true) ∧ Below w.heap.size w w' := by
  have hlm := h.len_le
  unfold maxLen at hlm
  by_cases hbig : 1048576 < len
  · exact caches_big a0 cap len hbig (by omega) w
  obtain ⟨ys, rfl, hW⟩ := code_of h (by omega)
  have hbigF : decide (1048576 < (ys.length : Int)) = false := by simp; omega
  obtain ⟨s, p, y, x, n, s8, n0, n9, CD⟩ := drawTakeBits_det a0 cap ys
  have hs : s.size ≤ 1048576 := by omega
  have BG := Lib.hid (big_any a0 ys.length cap (by omega))
  have CO := spec_cacheok_any s p y x hs
  cases hk : ckOk s p y x with
  | false =>
    rw [hk] at CO
    exact caches_bad a0 cap ys w hW ys.length rfl s p y x n hbigF BG (Lib.hid CD) (Lib.hid CO) (Lib.hid (impl_take_out s p y x n hs (.inl hk))) (Lib.hid (impl_placein_out s p y x hs hk))
  | true =>
    rw [hk] at CO
    cases hn : pkOk n with
    | false =>
      have TK := impl_take_out s p y x n hs (.inr ⟨hk, hn⟩)
      obtain ⟨a, P, hA, rfl, rfl, rfl⟩ := ckOk_at s p y x hk
      have RB := spec_readbits_any s (a : Int) n hs
      have PI := impl_placein_in s a P hs hA
      by_cases hlo : n < 0
      · exact caches_lo a0 cap ys w hW ys.length rfl s _ _ _ n (a : Int) _ _ hbigF BG (Lib.hid CD) (Lib.hid CO) (Lib.hid TK) (Lib.hid PI) _ (Lib.hid RB) (by simpa using hlo)
      · have hhi : 16 < n := by simp [pkOk] at hn; omega
        exact caches_hi a0 cap ys w hW ys.length rfl s _ _ _ n (a : Int) _ _ hbigF BG (Lib.hid CD) (Lib.hid CO) (Lib.hid TK) (Lib.hid PI) _ (Lib.hid RB) (by simpa using hlo) (by simpa using hhi)
    | true =>
      obtain ⟨a, P, hA, rfl, rfl, rfl⟩ := ckOk_at s p y x hk
      obtain ⟨m, rfl, hm⟩ := pkOk_nat n hn
      have PI := impl_placein_in s a P hs hA
      have hQ := (pkP_at s a P m hA).2
      have hF := (rfP_at s a P hA).2
      have h0 := at_settled s a P hA
      have hG := (pkP_at s a _ m h0).2
      have hH := (pkP_at s a _ m hF).2
      have TK := impl_take_in s a P m hs hA hm
      have PK := impl_peek_in s a P m hs hA hm
      have RF := impl_refill_in s a P hs hA
      have ST := impl_settle_in s a P hs hA
      have PG := impl_peek_in s a _ m hs h0 hm
      have PE := impl_placein_in s a _ hs hQ
      have PF := impl_placein_in s a _ hs hF
      have PQ := impl_placein_in s a _ hs hG
      have KF := impl_cacheok_any s (rfP s a P : Int) (rdN s a (8 * rfP s a P - a) : Int) ((8 * rfP s a P - a : Nat) : Int) hs
      rw [ckOk_of s a _ hF] at KF
      have SF := impl_skip_in s a _ m hs hF hm
      have KS := impl_cacheok_any s (((a + 7) / 8 : Nat) : Int) (rdN s a (8 * ((a + 7) / 8) - a) : Int) ((8 * ((a + 7) / 8) - a : Nat) : Int) hs
      rw [ckOk_of s a _ h0] at KS
      have CN := impl_new_any s
      have a9 : (a : Int) ≤ 64 := by obtain ⟨q1, q2, q3⟩ := hA; omega
      have hsx : decide (((8 * ((a + 7) / 8) - a : Nat) : Int) < 8) = true := by simp; omega
      have i1 := pkP_has s a P m hA hm
      have i2 := pkP_has s a _ m hF hm
      by_cases hin : a + m ≤ 8 * s.size
      · have j1 := i1.2 hin
        have j2 := i2.2 hin
        have RB := spec_readbits_in s a m hs (by omega) hin
        have hD := at_skip s a _ m hQ j1
        have hE := at_skip s a _ m hH j2
        have PD := impl_placein_in s (a + m) _ hs hD
        have PH := impl_placein_in s (a + m) _ hs hE
        have SH := impl_settle_in s (a + m) _ hs hE
        have SD := impl_settle_in s (a + m) _ hs hD
        have KD := impl_cacheok_any s (pkP s a P m : Int) (rdN s (a + m) (8 * pkP s a P m - (a + m)) : Int) ((8 * pkP s a P m - (a + m) : Nat) : Int) hs
        rw [ckOk_of s (a + m) _ hD] at KD
        rw [tkR, if_pos j1, pkV, if_neg (by omega)] at TK
        rw [pkV, if_neg (by omega)] at PK
        rw [skR, if_pos j2, decide_eq_true j2] at SF
        rw [Int.natCast_add] at PD PH
        exact caches_yes a0 cap ys w hW ys.length rfl s (P : Int) (rdN s a (8 * P - a) : Int) ((8 * P - a : Nat) : Int) (m : Int) (a : Int) _ 0 (rdN s a m : Int) (pkP s a P m : Int) (rdN s (a + m) (8 * pkP s a P m - (a + m)) : Int) ((8 * pkP s a P m - (a + m) : Nat) : Int) (pkP s a P m : Int) (rdN s a (8 * pkP s a P m - a) : Int) ((8 * pkP s a P m - a : Nat) : Int) 0 (rfP s a P : Int) (rdN s a (8 * rfP s a P - a) : Int) ((8 * rfP s a P - a : Nat) : Int) (((a + 7) / 8 : Nat) : Int) (rdN s a (8 * ((a + 7) / 8) - a) : Int) ((8 * ((a + 7) / 8) - a : Nat) : Int) (pkP s a ((a + 7) / 8) m : Int) (rdN s a (8 * pkP s a ((a + 7) / 8) m - a) : Int) ((8 * pkP s a ((a + 7) / 8) m - a : Nat) : Int) _ (pkP s a (rfP s a P) m : Int) (rdN s (a + m) (8 * pkP s a (rfP s a P) m - (a + m)) : Int) ((8 * pkP s a (rfP s a P) m - (a + m) : Nat) : Int) (((a + m + 7) / 8 : Nat) : Int) (rdN s (a + m) (8 * ((a + m + 7) / 8) - (a + m)) : Int) ((8 * ((a + m + 7) / 8) - (a + m) : Nat) : Int) hbigF BG (Lib.hid CD) (Lib.hid CO) (Lib.hid TK) (Lib.hid PI) (Lib.hid RB) (Lib.hid PK) (Lib.hid RF) (Lib.hid ST) (Lib.hid PG) (Lib.hid PD) (Lib.hid PE) (Lib.hid PF) (Lib.hid PQ) (Lib.hid KD) (Lib.hid KF) (Lib.hid SF) (Lib.hid PH) (Lib.hid SH) (Lib.hid SD) (Lib.hid KS) (Lib.hid CN) (by omega) (by omega) (by omega) a9 hsx
      · have j1 : ¬ m ≤ 8 * pkP s a P m - a := fun e => hin (i1.1 e)
        have j2 : ¬ m ≤ 8 * pkP s a (rfP s a P) m - a := fun e => hin (i2.1 e)
        have RB := spec_readbits_any s (a : Int) (m : Int) hs
        have hno : rbOk s (a : Int) (m : Int) = false := by
          cases hr : rbOk s (a : Int) (m : Int) with
          | false => rfl
          | true =>
            obtain ⟨b, k, e1, e2, e3, e4⟩ := rbOk_nat s (a : Int) (m : Int) hr
            omega
        rw [hno] at RB
        have KD := impl_cacheok_any s (pkP s a P m : Int) (rdN s a (8 * pkP s a P m - a) : Int) ((8 * pkP s a P m - a : Nat) : Int) hs
        rw [ckOk_of s a _ hQ] at KD
        rw [tkR, if_neg j1] at TK
        rw [skR, if_neg j2, decide_eq_false j2] at SF
        exact caches_no a0 cap ys w hW ys.length rfl s (P : Int) (rdN s a (8 * P - a) : Int) ((8 * P - a : Nat) : Int) (m : Int) (a : Int) _ _ 0 (pkP s a P m : Int) (rdN s a (8 * pkP s a P m - a) : Int) ((8 * pkP s a P m - a : Nat) : Int) (pkP s a P m : Int) (rdN s a (8 * pkP s a P m - a) : Int) ((8 * pkP s a P m - a : Nat) : Int) _ (rfP s a P : Int) (rdN s a (8 * rfP s a P - a) : Int) ((8 * rfP s a P - a : Nat) : Int) (((a + 7) / 8 : Nat) : Int) (rdN s a (8 * ((a + 7) / 8) - a) : Int) ((8 * ((a + 7) / 8) - a : Nat) : Int) (pkP s a ((a + 7) / 8) m : Int) (rdN s a (8 * pkP s a ((a + 7) / 8) m - a) : Int) ((8 * pkP s a ((a + 7) / 8) m - a : Nat) : Int) _ (pkP s a (rfP s a P) m : Int) (rdN s a (8 * pkP s a (rfP s a P) m - a) : Int) ((8 * pkP s a (rfP s a P) m - a : Nat) : Int) 0 0 0 hbigF BG (Lib.hid CD) (Lib.hid CO) (Lib.hid TK) (Lib.hid PI) (Lib.hid RB) (Lib.hid PK) (Lib.hid RF) (Lib.hid ST) (Lib.hid PG) (Lib.hid PE) (Lib.hid PF) (Lib.hid PQ) (Lib.hid KD) (Lib.hid KF) (Lib.hid SF) (Lib.hid KS) (Lib.hid CN) (by omega) (by omega) (by omega) a9 hsx
end Go.Proofs.Ytpifpemlljeglaa
