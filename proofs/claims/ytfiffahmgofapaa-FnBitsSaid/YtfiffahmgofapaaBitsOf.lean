/-
  Contracts of BitsOf, in both texts, and the law of BitsOf. Condition: the string is no longer than 1048576 bytes (the law asks no more).
-/
import Derived.Test.YtfiffahmgofapaaBitAt
import Derived.Test.YtfiffahmgofapaaInts
namespace Go.Proofs.Ytfiffahmgofapaa
open Go.RowKit
set_option linter.unusedVariables false

/-- The first `k` bits. -/
def bitsL (s : ByteArray) (k : Nat) : List Int := (List.range k).map fun (i : Nat) => (bitN s i : Int)
theorem bitsL_len (s : ByteArray) (k : Nat) : (bitsL s k).length = k := by simp [bitsL]
theorem bitsL_at (s : ByteArray) (k j : Nat) (h : j < k) : (bitsL s k).getD j 0 = (bitN s j : Int) := by
  rw [List.getD_eq_getElem?_getD]
  simp [bitsL, h]
theorem bitsL_snoc (s : ByteArray) (k : Nat) : bitsL s (k + 1) = bitsL s k ++ [(bitN s k : Int)] := by
  unfold bitsL
  rw [List.range_succ, List.map_append]
  rfl

set_option maxRecDepth 100000 in
set_option maxHeartbeats 1000000 in
theorem spec_bitsof_any (s : ByteArray) (hs : s.size ≤ 1048576) (w : World) :
    Calls Try.prog 19 #[.string s] w fun e w' => ∃ A cap, e = .returned (.slice A (bitsL s (8 * s.size)).length cap) ∧ OwnI w' w.heap.size A cap (bitsL s (8 * s.size)) ∧ Below w.heap.size w w' := by
  obtain ⟨i0, hi, hz0, hz1, hz2⟩ := info_parts Try.iinfo
  obtain ⟨n, hn⟩ : ∃ n, n = 8 * s.size := ⟨_, rfl⟩
  have hn8 : n ≤ 8388608 := by omega
  have hnI : 8 * (s.size : Int) = (n : Int) := by omega
  have hOI : ∀ w' A cap, OwnI w' w.heap.size A cap (bitsL s n) ↔ w'.ownsRow w.heap.size 3 1 (.slice A n cap) n (ivs (bitsL s n)) := fun w' A cap => by unfold OwnI; rw [bitsL_len]
  rw [← hn]
  simp only [hOI, bitsL_len]
  clear hOI
  have HN := Lib.hid hn; clear hn
  have HB := Lib.hid (spec_bitat_in s)
  go_enter Try.func19, Try.ntmps19
  go_wp2
  go_loopw [3, 4] (fun v i wr => ∃ j : Nat, j ≤ n ∧ i = .int .i64 j ∧ wr.ownsRow w.heap.size 3 1 v j (ivs (bitsL s j)) ∧ Below w.heap.size w wr)
    (fun _ i _ => n - (intOf i).toNat)
  case atStart => exact ⟨0, Nat.zero_le _, rfl, own_ints w w.heap.size [] (Nat.le_refl _) (by simp), (Below.refl _ _).alloc (Nat.le_refl _) _⟩
  case round =>
    obtain ⟨j, hj, rfl, hown, hbel⟩ := hrel
    by_cases hlt : j < n
    · have hq : decide ((j : Int) < 8 * (s.size : Int)) = true := by simp; omega
      go_wp2_with fail
      refine (HB.out j hs (by have := HN.out; omega) _).mono ?_
      rintro e w' ⟨rfl, rfl⟩
      go_wp2_with (at_builtin; refine append_one wr rfl (.tmp 13) (.tmp 17) 25 rfl w 3 i0 (.int .i64 0) 8 Try.underlying25 hi hz0 hz1 hz2 rfl _ _ _ rfl hown _ rfl rfl rfl (by omega) (by unfold maxLen; omega) hbel ?_; intro v' w' hown' hb')
      go_roundw
      case rel =>
        refine ⟨j + 1, by omega, by go_num, ?_, hb'⟩
        rw [bitsL_snoc, ivs_append]
        exact hown'
      case measure => simp [intOf]; omega
    · obtain rfl : j = n := by omega
      have hq : decide ((j : Int) < 8 * (s.size : Int)) = false := by simp; omega
      go_wp2
      go_ret
      rcases hown.2 with ⟨rfl, h0⟩ | ⟨g, cap, cur, rfl, _⟩
      · subst h0
        exact ⟨_, _, rfl, hown, hbel⟩
      · exact ⟨_, _, rfl, hown, hbel⟩

set_option maxRecDepth 100000 in
set_option maxHeartbeats 1000000 in
theorem impl_bitsof_any (s : ByteArray) (hs : s.size ≤ 1048576) (w : World) :
    Calls Try.prog 11 #[.string s] w fun e w' => ∃ A cap, e = .returned (.slice A (bitsL s (8 * s.size)).length cap) ∧ OwnI w' w.heap.size A cap (bitsL s (8 * s.size)) ∧ Below w.heap.size w w' := by
  obtain ⟨n, hn⟩ : ∃ n, n = 8 * s.size := ⟨_, rfl⟩
  have hn8 : n ≤ 8388608 := by omega
  have hnI : 8 * (s.size : Int) = (n : Int) := by omega
  have hOI : ∀ w' A cap, OwnI w' w.heap.size A cap (bitsL s n) ↔ w'.ownsRow w.heap.size 3 1 (.slice A n cap) n (ivs (bitsL s n)) := fun w' A cap => by unfold OwnI; rw [bitsL_len]
  rw [← hn]
  simp only [hOI, bitsL_len]
  clear hOI
  have hmk := make_ints n (8 * (s.size : Int)) (by omega) (by omega)
  have HN := Lib.hid hn; clear hn hnI
  have HB := Lib.hid (impl_bitat_in s)
  go_enter Try.func11, Try.ntmps11
  go_wp2
  clear hmk
  go_loopw [11] (fun i wr => ∃ (j : Nat) (p : List Int), j ≤ n ∧ p.length = n ∧ (∀ t, t < j → p.getD t 0 = (bitN s t : Int)) ∧ i = .int .i64 j ∧ wr.ownsRow w.heap.size 3 1 (.slice (some ⟨w.heap.size, 0, none⟩) n n) n (ivs p) ∧ Below w.heap.size w wr)
    (fun i _ => n - (intOf i).toNat)
  case atStart =>
    refine ⟨0, List.replicate n 0, Nat.zero_le _, by simp, fun t ht => absurd ht (by omega), rfl, ?_, (Below.refl _ _).alloc (Nat.le_refl _) _⟩
    have := own_ints w w.heap.size (List.replicate n 0) (Nat.le_refl _) (by simp [maxLen]; omega)
    unfold OwnI at this
    simpa using this
  case round =>
    obtain ⟨j, p, hj, hp, hpre, rfl, hown, hbel⟩ := hrel
    have HE := Lib.hid hpre; clear hpre
    have HP := Lib.hid hp; clear hp
    by_cases hlt : j < n
    · obtain ⟨b0, hc⟩ : ∃ b0 : Int, wr.cell? ⟨w.heap.size, j, none⟩ = some (.int .i64 b0) := ⟨_, (hown.cellAt j (by omega)).trans (ivs_at p j (by rw [HP.out]; omega))⟩
      have hz := hown.frozenAt j
      go_wp2_with fail
      refine (HB.out j hs (by have := HN.out; omega) _).mono ?_
      rintro e w' ⟨rfl, rfl⟩
      go_wp2
      go_roundw
      case rel =>
        have s1 := hown.stored j (.int .i64 (bitN s j))
        rw [ivs_set] at s1
        refine ⟨j + 1, p.set j (bitN s j), by omega, by simpa using HP.out, ?_, by go_num, s1.1, hbel.setCell (Nat.le_refl _) _⟩
        intro t ht
        by_cases htj : t = j
        · subst htj
          rw [List.getD_eq_getElem?_getD, List.getElem?_set_self (by rw [HP.out]; omega)]
          rfl
        · rw [List.getD_eq_getElem?_getD, List.getElem?_set_ne (fun e => htj e.symm), ← List.getD_eq_getElem?_getD]
          exact HE.out t (by omega)
      case measure => simp [intOf]; omega
    · obtain rfl : j = n := by omega
      go_wp2
      go_ret
      have e : p = bitsL s j := List.ext_getElem (by rw [HP.out, bitsL_len]) fun t h1 h2 => by
        have := HE.out t (by have := HP.out; omega)
        rw [List.getD_eq_getElem?_getD, List.getElem?_eq_getElem h1] at this
        have h3 := bitsL_at s j t (by rw [bitsL_len] at h2; exact h2)
        rw [List.getD_eq_getElem?_getD, List.getElem?_eq_getElem h2] at h3
        exact this.trans h3.symm
      rw [e] at hown
      exact ⟨_, _, rfl, hown, hbel⟩

set_option maxRecDepth 100000 in
set_option maxHeartbeats 1000000 in
/-- The law's own walk, by contracts of the two texts that answer with a row. -/
theorem fnExactBitsOf_walk (s : ByteArray) (hm : s.size ≤ maxLen) (w : World) :
    Calls Try.prog 4 #[.string s] w fun e w' => e = .returned (.bool true) ∧ Below w.heap.size w w' := by
  unfold maxLen at hm
  by_cases hbig : 1048576 < s.size
  · go_enter Try.func4, Try.ntmps4
    go_wp2
    go_ret
    exact ⟨rfl, Below.refl _ _⟩
  · have SP := Lib.hid (spec_bitsof_any s (by omega))
    have IM := Lib.hid (impl_bitsof_any s (by omega))
    obtain ⟨l, hl⟩ : ∃ l, l = bitsL s (8 * s.size) := ⟨_, rfl⟩
    have hlen : l.length ≤ 8388608 := by rw [hl, bitsL_len]; omega
    rw [← hl] at SP IM
    clear hl
    have EQ := Lib.hid @eqints_any
    have MK := Lib.hid @markints_any
    have HE := Lib.hid @heldints_any
    have hm0 : decide ((1 : Int) + (l.length : Int) < 0) = false := by simp; omega
    have hq : ((1 : Int) + (l.length : Int) != 1 + (l.length : Int)) = false := by simp
    go_enter Try.func4, Try.ntmps4
    go_wp2_with fail
    refine (SP.out _).mono ?_
    rintro e w1 ⟨A0, c0, rfl, ho0, hb1⟩
    have R0 := Lib.hid (ho0.ints (by omega)); clear ho0
    have B1 := Lib.hid hb1; clear hb1
    go_wp2_with fail
    refine (IM.out _).mono ?_
    rintro e w2 ⟨A1, c1, rfl, ho1, hb2⟩
    have O1 := Lib.hid ho1; clear ho1
    have B2 := Lib.hid hb2; clear hb2
    go_wp2_with fail
    refine (EQ.out _ _ _ _ _ _ _ (O1.out.ints (by omega)) ((R0.out.below B2.out (Nat.le_refl _)).mono B2.out.size)).mono ?_
    rintro e w3 ⟨rfl, hb3⟩
    have B3 := Lib.hid hb3; clear hb3
    have O3 := Lib.hid (O1.out.kept B3.out (Nat.le_refl _))
    go_wp2_with fail
    refine (MK.out _ _ _ _ _ (by omega) (by omega) (by omega) _ O3.out).mono ?_
    rintro e w4 ⟨rfl, ho4, hg4⟩
    have B4 := Lib.hid (O3.out.marked hg4 (B := w1.heap.size) (Nat.le_refl _) (Nat.le_trans B2.out.size B3.out.size)); clear hg4
    have M4 := Lib.hid (ho4.ints (by rw [markL_len]; omega)); clear ho4
    go_wp2_with fail
    refine (HE.out _ _ _ _ (by omega) (by omega) _ M4.out).mono ?_
    rintro e w5 ⟨rfl, hb5⟩
    have B5 := Lib.hid hb5; clear hb5
    go_wp2_with fail
    refine (IM.out _).mono ?_
    rintro e w6 ⟨A2, c2, rfl, ho6, hb6⟩
    have R6 := Lib.hid (ho6.ints (by omega)); clear ho6
    have B6 := Lib.hid hb6; clear hb6
    have C4 := Lib.hid ((B2.out.trans (B3.out.mono B2.out.size)).trans B4.out)
    have C6 := Lib.hid (below_up B5.out B6.out B5.out.size)
    have E6 := Lib.hid (((R0.out.below C4.out (Nat.le_refl _)).below C6.out C4.out.size).mono (Nat.le_trans C4.out.size C6.out.size))
    go_wp2_with fail
    refine (EQ.out _ _ _ _ _ _ _ R6.out E6.out).mono ?_
    rintro e w7 ⟨rfl, hb7⟩
    have B7 := Lib.hid hb7; clear hb7
    have C7 := Lib.hid (below_up C6.out B7.out C6.out.size)
    have M7 := Lib.hid ((M4.out.below C7.out (Nat.le_refl _)).mono C7.out.size)
    go_wp2_with fail
    refine (HE.out _ _ _ _ (by omega) (by omega) _ M7.out).mono ?_
    rintro e w8 ⟨rfl, hb8⟩
    go_wp2
    go_ret
    refine ⟨rfl, ?_⟩
    have D4 := below_up B1.out C4.out B1.out.size
    have D7 := below_up D4 C7.out D4.size
    exact below_up D7 hb8 D7.size
end Go.Proofs.Ytfiffahmgofapaa
