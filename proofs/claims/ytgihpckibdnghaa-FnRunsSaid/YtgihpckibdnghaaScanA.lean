/-
  Contracts of SizeOk and ScanOrder, in both texts, and of the size of a block. Condition: the number is an int.
-/
import Derived.Test.YtgihpckibdnghaaBits1
import Derived.Test.YtgihpckibdnghaaShelf
import Derived.Lib.RowBridge
namespace Go.Proofs.Ytgihpckibdnghaa
open Go.RowKit
set_option linter.unusedVariables false

/-- What the model's inner loop appends at step `k` of diagonal `d`. -/
def scStep (n d k : Nat) : List Int :=
  if (if d % 2 = 0 then d - k else k) < n ∧ (if d % 2 = 0 then k else d - k) < n then
    [(((if d % 2 = 0 then k else d - k) * n + (if d % 2 = 0 then d - k else k) : Nat) : Int)] else []
def scDia (n d : Nat) : Nat → List Int
  | 0 => []
  | k + 1 => scDia n d k ++ scStep n d k
/-- The row behind so many diagonals. -/
def scTab (n : Nat) : Nat → List Int
  | 0 => []
  | d + 1 => scTab n d ++ scDia n d (d + 1)
def okN (n : Int) : Bool := decide (n = 4) || decide (n = 8)
/-- What ScanOrder answers. -/
def scanL (n : Int) : List Int := if n = 4 then scTab 4 7 else if n = 8 then scTab 8 15 else []
theorem scanL_bad {n : Int} (h : okN n = false) : scanL n = [] := by
  simp [okN] at h
  unfold scanL
  rw [if_neg h.1, if_neg h.2]
theorem okN_cases {n : Int} (h : okN n = true) : n = 4 ∨ n = 8 := by simpa [okN] using h
theorem okN_no {n : Int} (h : okN n = false) : n ≠ 4 ∧ n ≠ 8 := by simpa [okN] using h
theorem scStep_len (n d k : Nat) : (scStep n d k).length ≤ 1 := by unfold scStep; generalize (if d % 2 = 0 then d - k else k) = x; generalize (if d % 2 = 0 then k else d - k) = y; split <;> simp
theorem scDia_len (n d : Nat) : ∀ k, (scDia n d k).length ≤ k
  | 0 => by simp [scDia]
  | k + 1 => by
    have h1 := scDia_len n d k
    have h2 := scStep_len n d k
    rw [scDia, List.length_append]
    omega
theorem scTab_len (n : Nat) : ∀ d, (scTab n d).length ≤ d * d
  | 0 => by simp [scTab]
  | d + 1 => by
    have h1 := scTab_len n d
    have h2 := scDia_len n d (d + 1)
    rw [scTab, List.length_append, Nat.mul_add, Nat.add_mul]
    omega
theorem scTab4_len : (scTab 4 7).length = 16 := by decide +kernel
theorem scTab8_len : (scTab 8 15).length = 64 := by decide +kernel

/-- A row that the call owns is a slice. -/
theorem own_slice {w : World} {base : Nat} {v : Value} {n : Nat} {l : List Int} (h : w.ownsRow base 3 1 v n (ivs l)) : ∃ A c, v = .slice A l.length c ∧ OwnI w base A c l := by
  have hn : n = l.length := by have := h.1; rw [ivs_len] at this; omega
  subst hn
  unfold OwnI
  rcases h.2 with ⟨h1, h2⟩ | ⟨g, cap, cur, h1, _⟩
  · rw [h2] at h ⊢
    exact ⟨none, 0, h1, by rw [← h1]; exact h⟩
  · exact ⟨_, _, h1, by rw [← h1]; exact h⟩

set_option maxRecDepth 100000 in
set_option maxHeartbeats 1000000 in
theorem impl_sizeok_any (n : Int) (w : World) :
    Calls Try.prog 31 #[.int .i64 n] w fun e w' => e = .returned (.bool (okN n)) ∧ w = w' := by
  by_cases h4 : n = 4
  · subst h4
    go_enter Try.func31, Try.ntmps31
    go_wp2
    go_ret
    exact ⟨rfl, rfl⟩
  · have b4 : (n == 4) = false := by rw [beq_eq_false_iff_ne]; exact h4
    have e : okN n = (n == 8) := by
      unfold okN
      rw [decide_eq_false h4, Bool.false_or]
      by_cases h : n = 8
      · rw [h]; decide
      · rw [decide_eq_false h]; simp [h]
    rw [e]
    clear e h4
    go_enter Try.func31, Try.ntmps31
    go_wp2
    go_ret
    exact ⟨rfl, rfl⟩
set_option maxRecDepth 100000 in
set_option maxHeartbeats 1000000 in
theorem spec_sizeok_any (n : Int) (w : World) :
    Calls Try.prog 52 #[.int .i64 n] w fun e w' => e = .returned (.bool (okN n)) ∧ w = w' := by
  by_cases h4 : n = 4
  · subst h4
    go_enter Try.func52, Try.ntmps52
    go_wp2
    go_ret
    exact ⟨rfl, rfl⟩
  · have b4 : (n == 4) = false := by rw [beq_eq_false_iff_ne]; exact h4
    have e : okN n = (n == 8) := by
      unfold okN
      rw [decide_eq_false h4, Bool.false_or]
      by_cases h : n = 8
      · rw [h]; decide
      · rw [decide_eq_false h]; simp [h]
    rw [e]
    clear e h4
    go_enter Try.func52, Try.ntmps52
    go_wp2
    go_ret
    exact ⟨rfl, rfl⟩

/-- The side of a square of so many numbers. -/
def sideN (n : Nat) : Int := if n = 16 then 4 else if n = 64 then 8 else 0
set_option maxRecDepth 100000 in
set_option maxHeartbeats 1000000 in
theorem impl_side_any (n : Nat) (w : World) :
    Calls Try.prog 41 #[.int .i64 n] w fun e w' => e = .returned (.int .i64 (sideN n)) ∧ w = w' := by
  by_cases h1 : n = 16
  · subst h1
    go_enter Try.func41, Try.ntmps41
    go_wp2
    go_ret
    exact ⟨rfl, rfl⟩
  · by_cases h2 : n = 64
    · subst h2
      go_enter Try.func41, Try.ntmps41
      go_wp2
      go_ret
      exact ⟨rfl, rfl⟩
    · have e : sideN n = 0 := by unfold sideN; rw [if_neg h1, if_neg h2]
      rw [e]
      have b1 : ((n : Int) == 16) = false := by rw [beq_eq_false_iff_ne]; omega
      have b2 : ((n : Int) == 64) = false := by rw [beq_eq_false_iff_ne]; omega
      clear e h1 h2
      go_enter Try.func41, Try.ntmps41
      go_wp2
      go_ret
      exact ⟨rfl, rfl⟩
set_option maxRecDepth 100000 in
set_option maxHeartbeats 1000000 in
theorem spec_side_any (A : Option Addr) (ca n : Nat) (w : World) :
    Calls Try.prog 45 #[.slice A n ca] w fun e w' => e = .returned (.int .i64 (sideN n)) ∧ w = w' := by
  by_cases h1 : n = 16
  · subst h1
    go_enter Try.func45, Try.ntmps45
    go_wp2
    go_ret
    exact ⟨rfl, rfl⟩
  · by_cases h2 : n = 64
    · subst h2
      go_enter Try.func45, Try.ntmps45
      go_wp2
      go_ret
      exact ⟨rfl, rfl⟩
    · have e : sideN n = 0 := by unfold sideN; rw [if_neg h1, if_neg h2]
      rw [e]
      have b1 : ((n : Int) == 16) = false := by rw [beq_eq_false_iff_ne]; omega
      have b2 : ((n : Int) == 64) = false := by rw [beq_eq_false_iff_ne]; omega
      clear e h1 h2
      go_enter Try.func45, Try.ntmps45
      go_wp2
      go_ret
      exact ⟨rfl, rfl⟩

set_option maxRecDepth 100000 in
set_option maxHeartbeats 2000000 in
theorem spec_scan_bad (n : Int) (hn : (Lit.int .i64 n).wf = true) (hok : okN n = false) (w : World) :
    Calls Try.prog 32 #[.int .i64 n] w fun e w' => ∃ A c, e = .returned (.slice A 0 c) ∧ OwnI w' w.heap.size A c [] ∧ Below w.heap.size w w' := by
  have O0 := Lib.hid (own_ints w w.heap.size [] (Nat.le_refl _) (by simp))
  have B0 := Lib.hid ((Below.refl w.heap.size w).alloc (Nat.le_refl _) (.cells (ivs []).toArray 3))
  have SZ := Lib.hid (spec_sizeok_any n)
  rw [hok] at SZ
  clear hok hn
  obtain ⟨a, ha⟩ : ∃ a, a = wrap64 (2 * n) := ⟨_, rfl⟩
  obtain ⟨m, hm⟩ : ∃ m, m = wrap64 (a - 1) := ⟨_, rfl⟩
  have ha2 := ha.symm
  have hm2 := hm.symm
  clear ha hm
  by_cases hc : 0 < m
  · have hd : decide ((0 : Int) < m) = true := by simpa using hc
    clear hc
    go_enter Try.func32, Try.ntmps32
    go_wp2
    go_loopw [3, 4, 5, 6, 7] (fun v d x5 x6 x7 wr => v = .slice (some ⟨w.heap.size, 0, none⟩) 0 0 ∧ d = .int .i64 0 ∧ wr = w.alloc (.cells (ivs []).toArray 3)) (fun _ _ _ _ _ _ => 0)
    case atStart => exact ⟨rfl, rfl, rfl⟩
    case round =>
      obtain ⟨rfl, rfl, rfl⟩ := hrel
      go_wp2_with fail
      refine (SZ.out _).mono ?_
      rintro e w' ⟨rfl, hw⟩
      subst hw
      go_wp2
      go_ret
      exact ⟨_, _, rfl, O0.out, B0.out⟩
  · have hd : decide ((0 : Int) < m) = false := by simpa using hc
    clear hc
    go_enter Try.func32, Try.ntmps32
    go_wp2
    go_loopw [3, 4, 5, 6, 7] (fun v d x5 x6 x7 wr => v = .slice (some ⟨w.heap.size, 0, none⟩) 0 0 ∧ d = .int .i64 0 ∧ wr = w.alloc (.cells (ivs []).toArray 3)) (fun _ _ _ _ _ _ => 0)
    case atStart => exact ⟨rfl, rfl, rfl⟩
    case round =>
      obtain ⟨rfl, rfl, rfl⟩ := hrel
      go_wp2
      go_ret
      exact ⟨_, _, rfl, O0.out, B0.out⟩

set_option maxRecDepth 100000 in
set_option maxHeartbeats 4000000 in
theorem spec_scan_4 (w : World) :
    Calls Try.prog 32 #[.int .i64 4] w fun e w' => ∃ A c, e = .returned (.slice A (scTab 4 7).length c) ∧ OwnI w' w.heap.size A c (scTab 4 7) ∧ Below w.heap.size w w' := by
  obtain ⟨i0, hi, hz0, hz1, hz2⟩ := info_parts Try.iinfo
  have O0 := Lib.hid (own_ints w w.heap.size [] (Nat.le_refl _) (by simp))
  have B0 := Lib.hid ((Below.refl w.heap.size w).alloc (Nat.le_refl _) (.cells (ivs []).toArray 3))
  have SZ := Lib.hid (spec_sizeok_any 4)
  rw [show okN 4 = true from rfl] at SZ
  go_enter Try.func32, Try.ntmps32
  go_wp2
  go_loopw [3, 4, 5, 6, 7] (fun v d x5 x6 x7 wr => ∃ j p : Nat, j ≤ 7 ∧ d = .int .i64 j ∧ p = (scTab 4 j).length ∧ wr.ownsRow w.heap.size 3 1 v p (ivs (scTab 4 j)) ∧ Below w.heap.size w wr)
    (fun _ d _ _ _ _ => 7 - (intOf d).toNat)
  case atStart => exact ⟨0, 0, by omega, rfl, rfl, O0.out, B0.out⟩
  case round =>
    obtain ⟨d, p, hd, rfl, hp, hown, hbel⟩ := hrel
    by_cases hlt : d < 7
    · have hlt2 : decide ((d : Int) < 7) = true := by simp; omega
      have hpl := scTab_len 4 d
      obtain ⟨T, hT⟩ : ∃ T, T = scTab 4 d := ⟨_, rfl⟩
      rw [← hT] at hown hp hpl
      have hpp : p ≤ 225 := by
        have : d * d ≤ 14 * 14 := Nat.mul_le_mul (by omega) (by omega)
        omega
      have HT := Lib.hid hT; have HP := Lib.hid hp; have O1 := Lib.hid hown; have B1 := Lib.hid hbel
      clear hT hp hpl hown hbel
      go_wp2_with fail
      refine (SZ.out _).mono ?_
      rintro e w' ⟨rfl, hw⟩
      subst hw
      clear hlt2
      go_wp2
      go_loopw [3, 5, 6, 7] (fun v k x6 x7 wr => ∃ j p : Nat, j ≤ d + 1 ∧ k = .int .i64 j ∧ p = (T ++ scDia 4 d j).length ∧ p ≤ 225 + j ∧ wr.ownsRow w.heap.size 3 1 v p (ivs (T ++ scDia 4 d j)) ∧ Below w.heap.size w wr)
          (fun _ k _ _ _ => d + 1 - (intOf k).toNat)
      case atStart => exact ⟨0, p, by omega, rfl, by rw [scDia, List.append_nil]; exact HP.out, by omega, by rw [scDia, List.append_nil]; exact O1.out, B1.out⟩
      case round =>
        obtain ⟨j, q, hj, rfl, hq, hqq, hown, hbel⟩ := hrel
        by_cases hjd : j ≤ d
        · have b1 : decide ((j : Int) ≤ (d : Int)) = true := by simp; omega
          obtain ⟨L, hL⟩ : ∃ L, L = T ++ scDia 4 d j := ⟨_, rfl⟩
          have hLs : T ++ scDia 4 d (j + 1) = L ++ scStep 4 d j := by rw [hL, scDia, List.append_assoc]
          rw [← hL] at hown hq
          have HQ := Lib.hid hq; have HL := Lib.hid hLs
          clear hL hLs hq
          have hq2 : q ≤ 240 := by omega
          by_cases hev : d % 2 = 0
          · have b2 : ((d : Int) % 2 == 0) = true := by rw [beq_iff_eq]; omega
            by_cases hx : d - j < 4
            · have b3 : decide ((d : Int) - (j : Int) < 4) = true := by simp; omega
              by_cases hy : j < 4
              · have b4 : decide ((j : Int) < 4) = true := by simp; omega
                have hS : scStep 4 d j = [(j : Int) * 4 + ((d : Int) - (j : Int))] := by
                  unfold scStep
                  rw [if_pos hev, if_pos hev, if_pos ⟨hx, hy⟩]
                  congr 1
                  omega
                have HS := Lib.hid hS; clear hS hev hx hy
                go_wp2_with (at_builtin; refine append_one wr rfl (.tmp 50) (.tmp 56) 24 rfl w 3 i0 (.int .i64 0) 8 Try.underlying24 hi hz0 hz1 hz2 rfl _ _ _ rfl hown _ rfl rfl rfl (by omega) (by unfold maxLen; omega) hbel ?_; intro v' w' hown' hb')
                go_roundw
                case rel =>
                  refine ⟨j + 1, q + 1, by omega, by go_num, ?_, by omega, ?_, hb'⟩
                  · rw [HL.out, HS.out, List.length_append, ← HQ.out]; rfl
                  · rw [HL.out, HS.out, ivs_append]; exact hown'
                case measure => simp [intOf]; omega
              · have b4 : decide ((j : Int) < 4) = false := by simp; omega
                have hS : scStep 4 d j = [] := by
                  unfold scStep
                  rw [if_pos hev, if_pos hev, if_neg (fun h => hy h.2)]
                have HS := Lib.hid hS; clear hS hev hx hy
                go_wp2
                go_roundw
                case rel =>
                  refine ⟨j + 1, q, by omega, by go_num, ?_, by omega, ?_, hbel⟩
                  · rw [HL.out, HS.out, List.append_nil]; exact HQ.out
                  · rw [HL.out, HS.out, List.append_nil]; exact hown
                case measure => simp [intOf]; omega
            · have b3 : decide ((d : Int) - (j : Int) < 4) = false := by simp; omega
              have hS : scStep 4 d j = [] := by
                unfold scStep
                rw [if_pos hev, if_pos hev, if_neg (fun h => hx h.1)]
              have HS := Lib.hid hS; clear hS hev hx
              go_wp2
              go_roundw
              case rel =>
                refine ⟨j + 1, q, by omega, by go_num, ?_, by omega, ?_, hbel⟩
                · rw [HL.out, HS.out, List.append_nil]; exact HQ.out
                · rw [HL.out, HS.out, List.append_nil]; exact hown
              case measure => simp [intOf]; omega
          · have b2 : ((d : Int) % 2 == 0) = false := by rw [beq_eq_false_iff_ne]; omega
            by_cases hx : j < 4
            · have b3 : decide ((j : Int) < 4) = true := by simp; omega
              by_cases hy : d - j < 4
              · have b4 : decide ((d : Int) - (j : Int) < 4) = true := by simp; omega
                have hS : scStep 4 d j = [((d : Int) - (j : Int)) * 4 + (j : Int)] := by
                  unfold scStep
                  rw [if_neg hev, if_neg hev, if_pos ⟨hx, hy⟩]
                  congr 1
                  omega
                have HS := Lib.hid hS; clear hS hev hx hy
                go_wp2_with (at_builtin; refine append_one wr rfl (.tmp 50) (.tmp 56) 24 rfl w 3 i0 (.int .i64 0) 8 Try.underlying24 hi hz0 hz1 hz2 rfl _ _ _ rfl hown _ rfl rfl rfl (by omega) (by unfold maxLen; omega) hbel ?_; intro v' w' hown' hb')
                go_roundw
                case rel =>
                  refine ⟨j + 1, q + 1, by omega, by go_num, ?_, by omega, ?_, hb'⟩
                  · rw [HL.out, HS.out, List.length_append, ← HQ.out]; rfl
                  · rw [HL.out, HS.out, ivs_append]; exact hown'
                case measure => simp [intOf]; omega
              · have b4 : decide ((d : Int) - (j : Int) < 4) = false := by simp; omega
                have hS : scStep 4 d j = [] := by
                  unfold scStep
                  rw [if_neg hev, if_neg hev, if_neg (fun h => hy h.2)]
                have HS := Lib.hid hS; clear hS hev hx hy
                go_wp2
                go_roundw
                case rel =>
                  refine ⟨j + 1, q, by omega, by go_num, ?_, by omega, ?_, hbel⟩
                  · rw [HL.out, HS.out, List.append_nil]; exact HQ.out
                  · rw [HL.out, HS.out, List.append_nil]; exact hown
                case measure => simp [intOf]; omega
            · have b3 : decide ((j : Int) < 4) = false := by simp; omega
              have hS : scStep 4 d j = [] := by
                unfold scStep
                rw [if_neg hev, if_neg hev, if_neg (fun h => hx h.1)]
              have HS := Lib.hid hS; clear hS hev hx
              go_wp2
              go_roundw
              case rel =>
                refine ⟨j + 1, q, by omega, by go_num, ?_, by omega, ?_, hbel⟩
                · rw [HL.out, HS.out, List.append_nil]; exact HQ.out
                · rw [HL.out, HS.out, List.append_nil]; exact hown
              case measure => simp [intOf]; omega
        · obtain rfl : j = d + 1 := by omega
          have b1 : decide (((d + 1 : Nat) : Int) ≤ (d : Int)) = false := by simp; omega
          have b1' : decide ((d : Int) + 1 ≤ (d : Int)) = false := by simp; omega
          have HQ := Lib.hid hq; have O2 := Lib.hid hown; have B2 := Lib.hid hbel
          clear hq hown hbel
          go_wp2
          go_roundw
          case rel => exact ⟨d + 1, q, by omega, by go_num, by rw [scTab, ← HT.out]; exact HQ.out, by rw [scTab, ← HT.out]; exact O2.out, B2.out⟩
          case measure => simp [intOf]; omega
    · obtain rfl : d = 7 := by omega
      obtain ⟨A, c, rfl, ho⟩ := own_slice hown
      have O1 := Lib.hid ho; have B1 := Lib.hid hbel
      clear hp hown ho hbel
      go_wp2
      go_ret
      exact ⟨_, _, rfl, O1.out, B1.out⟩

set_option maxRecDepth 100000 in
set_option maxHeartbeats 4000000 in
theorem spec_scan_8 (w : World) :
    Calls Try.prog 32 #[.int .i64 8] w fun e w' => ∃ A c, e = .returned (.slice A (scTab 8 15).length c) ∧ OwnI w' w.heap.size A c (scTab 8 15) ∧ Below w.heap.size w w' := by
  obtain ⟨i0, hi, hz0, hz1, hz2⟩ := info_parts Try.iinfo
  have O0 := Lib.hid (own_ints w w.heap.size [] (Nat.le_refl _) (by simp))
  have B0 := Lib.hid ((Below.refl w.heap.size w).alloc (Nat.le_refl _) (.cells (ivs []).toArray 3))
  have SZ := Lib.hid (spec_sizeok_any 8)
  rw [show okN 8 = true from rfl] at SZ
  go_enter Try.func32, Try.ntmps32
  go_wp2
  go_loopw [3, 4, 5, 6, 7] (fun v d x5 x6 x7 wr => ∃ j p : Nat, j ≤ 15 ∧ d = .int .i64 j ∧ p = (scTab 8 j).length ∧ wr.ownsRow w.heap.size 3 1 v p (ivs (scTab 8 j)) ∧ Below w.heap.size w wr)
    (fun _ d _ _ _ _ => 15 - (intOf d).toNat)
  case atStart => exact ⟨0, 0, by omega, rfl, rfl, O0.out, B0.out⟩
  case round =>
    obtain ⟨d, p, hd, rfl, hp, hown, hbel⟩ := hrel
    by_cases hlt : d < 15
    · have hlt2 : decide ((d : Int) < 15) = true := by simp; omega
      have hpl := scTab_len 8 d
      obtain ⟨T, hT⟩ : ∃ T, T = scTab 8 d := ⟨_, rfl⟩
      rw [← hT] at hown hp hpl
      have hpp : p ≤ 225 := by
        have : d * d ≤ 14 * 14 := Nat.mul_le_mul (by omega) (by omega)
        omega
      have HT := Lib.hid hT; have HP := Lib.hid hp; have O1 := Lib.hid hown; have B1 := Lib.hid hbel
      clear hT hp hpl hown hbel
      go_wp2_with fail
      refine (SZ.out _).mono ?_
      rintro e w' ⟨rfl, hw⟩
      subst hw
      clear hlt2
      go_wp2
      go_loopw [3, 5, 6, 7] (fun v k x6 x7 wr => ∃ j p : Nat, j ≤ d + 1 ∧ k = .int .i64 j ∧ p = (T ++ scDia 8 d j).length ∧ p ≤ 225 + j ∧ wr.ownsRow w.heap.size 3 1 v p (ivs (T ++ scDia 8 d j)) ∧ Below w.heap.size w wr)
          (fun _ k _ _ _ => d + 1 - (intOf k).toNat)
      case atStart => exact ⟨0, p, by omega, rfl, by rw [scDia, List.append_nil]; exact HP.out, by omega, by rw [scDia, List.append_nil]; exact O1.out, B1.out⟩
      case round =>
        obtain ⟨j, q, hj, rfl, hq, hqq, hown, hbel⟩ := hrel
        by_cases hjd : j ≤ d
        · have b1 : decide ((j : Int) ≤ (d : Int)) = true := by simp; omega
          obtain ⟨L, hL⟩ : ∃ L, L = T ++ scDia 8 d j := ⟨_, rfl⟩
          have hLs : T ++ scDia 8 d (j + 1) = L ++ scStep 8 d j := by rw [hL, scDia, List.append_assoc]
          rw [← hL] at hown hq
          have HQ := Lib.hid hq; have HL := Lib.hid hLs
          clear hL hLs hq
          have hq2 : q ≤ 240 := by omega
          by_cases hev : d % 2 = 0
          · have b2 : ((d : Int) % 2 == 0) = true := by rw [beq_iff_eq]; omega
            by_cases hx : d - j < 8
            · have b3 : decide ((d : Int) - (j : Int) < 8) = true := by simp; omega
              by_cases hy : j < 8
              · have b4 : decide ((j : Int) < 8) = true := by simp; omega
                have hS : scStep 8 d j = [(j : Int) * 8 + ((d : Int) - (j : Int))] := by
                  unfold scStep
                  rw [if_pos hev, if_pos hev, if_pos ⟨hx, hy⟩]
                  congr 1
                  omega
                have HS := Lib.hid hS; clear hS hev hx hy
                go_wp2_with (at_builtin; refine append_one wr rfl (.tmp 50) (.tmp 56) 24 rfl w 3 i0 (.int .i64 0) 8 Try.underlying24 hi hz0 hz1 hz2 rfl _ _ _ rfl hown _ rfl rfl rfl (by omega) (by unfold maxLen; omega) hbel ?_; intro v' w' hown' hb')
                go_roundw
                case rel =>
                  refine ⟨j + 1, q + 1, by omega, by go_num, ?_, by omega, ?_, hb'⟩
                  · rw [HL.out, HS.out, List.length_append, ← HQ.out]; rfl
                  · rw [HL.out, HS.out, ivs_append]; exact hown'
                case measure => simp [intOf]; omega
              · have b4 : decide ((j : Int) < 8) = false := by simp; omega
                have hS : scStep 8 d j = [] := by
                  unfold scStep
                  rw [if_pos hev, if_pos hev, if_neg (fun h => hy h.2)]
                have HS := Lib.hid hS; clear hS hev hx hy
                go_wp2
                go_roundw
                case rel =>
                  refine ⟨j + 1, q, by omega, by go_num, ?_, by omega, ?_, hbel⟩
                  · rw [HL.out, HS.out, List.append_nil]; exact HQ.out
                  · rw [HL.out, HS.out, List.append_nil]; exact hown
                case measure => simp [intOf]; omega
            · have b3 : decide ((d : Int) - (j : Int) < 8) = false := by simp; omega
              have hS : scStep 8 d j = [] := by
                unfold scStep
                rw [if_pos hev, if_pos hev, if_neg (fun h => hx h.1)]
              have HS := Lib.hid hS; clear hS hev hx
              go_wp2
              go_roundw
              case rel =>
                refine ⟨j + 1, q, by omega, by go_num, ?_, by omega, ?_, hbel⟩
                · rw [HL.out, HS.out, List.append_nil]; exact HQ.out
                · rw [HL.out, HS.out, List.append_nil]; exact hown
              case measure => simp [intOf]; omega
          · have b2 : ((d : Int) % 2 == 0) = false := by rw [beq_eq_false_iff_ne]; omega
            by_cases hx : j < 8
            · have b3 : decide ((j : Int) < 8) = true := by simp; omega
              by_cases hy : d - j < 8
              · have b4 : decide ((d : Int) - (j : Int) < 8) = true := by simp; omega
                have hS : scStep 8 d j = [((d : Int) - (j : Int)) * 8 + (j : Int)] := by
                  unfold scStep
                  rw [if_neg hev, if_neg hev, if_pos ⟨hx, hy⟩]
                  congr 1
                  omega
                have HS := Lib.hid hS; clear hS hev hx hy
                go_wp2_with (at_builtin; refine append_one wr rfl (.tmp 50) (.tmp 56) 24 rfl w 3 i0 (.int .i64 0) 8 Try.underlying24 hi hz0 hz1 hz2 rfl _ _ _ rfl hown _ rfl rfl rfl (by omega) (by unfold maxLen; omega) hbel ?_; intro v' w' hown' hb')
                go_roundw
                case rel =>
                  refine ⟨j + 1, q + 1, by omega, by go_num, ?_, by omega, ?_, hb'⟩
                  · rw [HL.out, HS.out, List.length_append, ← HQ.out]; rfl
                  · rw [HL.out, HS.out, ivs_append]; exact hown'
                case measure => simp [intOf]; omega
              · have b4 : decide ((d : Int) - (j : Int) < 8) = false := by simp; omega
                have hS : scStep 8 d j = [] := by
                  unfold scStep
                  rw [if_neg hev, if_neg hev, if_neg (fun h => hy h.2)]
                have HS := Lib.hid hS; clear hS hev hx hy
                go_wp2
                go_roundw
                case rel =>
                  refine ⟨j + 1, q, by omega, by go_num, ?_, by omega, ?_, hbel⟩
                  · rw [HL.out, HS.out, List.append_nil]; exact HQ.out
                  · rw [HL.out, HS.out, List.append_nil]; exact hown
                case measure => simp [intOf]; omega
            · have b3 : decide ((j : Int) < 8) = false := by simp; omega
              have hS : scStep 8 d j = [] := by
                unfold scStep
                rw [if_neg hev, if_neg hev, if_neg (fun h => hx h.1)]
              have HS := Lib.hid hS; clear hS hev hx
              go_wp2
              go_roundw
              case rel =>
                refine ⟨j + 1, q, by omega, by go_num, ?_, by omega, ?_, hbel⟩
                · rw [HL.out, HS.out, List.append_nil]; exact HQ.out
                · rw [HL.out, HS.out, List.append_nil]; exact hown
              case measure => simp [intOf]; omega
        · obtain rfl : j = d + 1 := by omega
          have b1 : decide (((d + 1 : Nat) : Int) ≤ (d : Int)) = false := by simp; omega
          have b1' : decide ((d : Int) + 1 ≤ (d : Int)) = false := by simp; omega
          have HQ := Lib.hid hq; have O2 := Lib.hid hown; have B2 := Lib.hid hbel
          clear hq hown hbel
          go_wp2
          go_roundw
          case rel => exact ⟨d + 1, q, by omega, by go_num, by rw [scTab, ← HT.out]; exact HQ.out, by rw [scTab, ← HT.out]; exact O2.out, B2.out⟩
          case measure => simp [intOf]; omega
    · obtain rfl : d = 15 := by omega
      obtain ⟨A, c, rfl, ho⟩ := own_slice hown
      have O1 := Lib.hid ho; have B1 := Lib.hid hbel
      clear hp hown ho hbel
      go_wp2
      go_ret
      exact ⟨_, _, rfl, O1.out, B1.out⟩

theorem scanL_len (n : Int) : (scanL n).length ≤ 64 := by
  unfold scanL
  split
  · rw [scTab4_len]; decide
  · split
    · rw [scTab8_len]; decide
    · simp
theorem spec_scan_any (n : Int) (hn : (Lit.int .i64 n).wf = true) (w : World) :
    Calls Try.prog 32 #[.int .i64 n] w fun e w' => ∃ A c, e = .returned (.slice A (scanL n).length c) ∧ OwnI w' w.heap.size A c (scanL n) ∧ Below w.heap.size w w' := by
  cases hok : okN n with
  | false =>
    rw [scanL_bad hok]
    exact spec_scan_bad n hn hok w
  | true =>
    rcases okN_cases hok with rfl | rfl
    · exact spec_scan_4 w
    · exact spec_scan_8 w

/-- The diagonal of the program, from its smallest x on: what stands there behind so many rounds from x = a on. -/
def imStep (n d x : Nat) : Int := ((d - x) * n + x : Nat)
def imRow (n d a : Nat) : Nat → List Int
  | 0 => []
  | k + 1 => imRow n d a k ++ [imStep n d (a + k)]
theorem imRow_len (n d a : Nat) : ∀ k, (imRow n d a k).length = k
  | 0 => rfl
  | k + 1 => by rw [imRow, List.length_append, imRow_len n d a k]; rfl
/-- From where, and how many. -/
def imA (n d : Nat) : Nat := d + 1 - n
def imK (n d : Nat) : Nat := (if d < n - 1 then d else n - 1) + 1 - imA n d
def imDia (n d : Nat) : List Int := if d % 2 = 0 then (imRow n d (imA n d) (imK n d)).reverse else imRow n d (imA n d) (imK n d)
theorem imDia_len (n d : Nat) : (imDia n d).length = imK n d := by unfold imDia; split <;> simp [imRow_len]
theorem imDia_4 : ∀ d, d < 7 → imDia 4 d = scDia 4 d (d + 1) := by decide +kernel
theorem imDia_8 : ∀ d, d < 15 → imDia 8 d = scDia 8 d (d + 1) := by decide +kernel

end Go.Proofs.Ytgihpckibdnghaa
