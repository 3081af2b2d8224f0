/-
  Contracts of LevelsFrom, in both texts. Condition: the lists are no longer than 1048576 (the laws ask no more).
-/
import Derived.Test.YtgihpckibdnghaaRunB
namespace Go.Proofs.Ytgihpckibdnghaa
open Go.RowKit
set_option linter.unusedVariables false

theorem fitV_cases {x y left : Int} (h : fitV (x, y) left = false) : x < 0 ∨ (0 ≤ x ∧ left ≤ x) ∨ (0 ≤ x ∧ x < left ∧ y = 0) ∨ (0 ≤ x ∧ x < left ∧ y ≠ 0 ∧ inV y = false) := by
  unfold fitV at h
  by_cases h1 : 0 ≤ x
  · by_cases h2 : x < left
    · by_cases h3 : y = 0
      · exact .inr (.inr (.inl ⟨h1, h2, h3⟩))
      · simp [h1, h2, h3] at h
        exact .inr (.inr (.inr ⟨h1, h2, h3, h⟩))
    · exact .inr (.inl ⟨h1, by omega⟩)
  · exact .inl (by omega)
theorem fitV_parts {x y left : Int} (h : fitV (x, y) left = true) : 0 ≤ x ∧ x < left ∧ y ≠ 0 ∧ inV y = true := by
  simp [fitV] at h
  exact ⟨h.1.1.1, h.1.1.2, h.1.2, h.2⟩
theorem lfT_step {n : Nat} {p : EntL} {j : Nat} {o : List Int} {a : Nat} {x y : Int} (h : lfT n p j = some (o, a)) (he : (x, y) = entAt p j) : lfT n p (j + 1) = if fitV (x, y) ((n : Int) - (a : Int)) then some (o.set (a + x.toNat) y, a + x.toNat + 1) else none := by
  rw [lfT, h, ← he]
  rfl
theorem lfO_some {n : Nat} {p : EntL} {o : List Int} {a : Nat} (hn : n = 16 ∨ n = 64) (h : lfT n p p.length = some (o, a)) : lfR p (n : Int) = o ∧ lfE p (n : Int) = 0 := by
  have e : lfO p (n : Int) = some (o, a) := by
    unfold lfO
    rw [if_pos (by omega), Int.toNat_natCast, h]
  unfold lfR lfE
  rw [e]
  exact ⟨rfl, rfl⟩
theorem lfO_none {n : Nat} {p : EntL} {j : Nat} (hj : j ≤ p.length) (h : lfT n p j = none) : lfR p (n : Int) = [] ∧ lfE p (n : Int) = 5 := by
  have e : lfO p (n : Int) = none := by
    unfold lfO
    split
    · rw [Int.toNat_natCast, show p.length = j + (p.length - j) by omega]
      exact lfT_none h _
    · rfl
  unfold lfR lfE
  rw [e]
  exact ⟨rfl, rfl⟩
theorem lfO_bad {n : Int} {p : EntL} (h : ¬ (n = 16 ∨ n = 64)) : lfR p n = [] ∧ lfE p n = 5 := by
  have e : lfO p n = none := by
    unfold lfO
    rw [if_neg h]
  unfold lfR lfE
  rw [e]
  exact ⟨rfl, rfl⟩

set_option maxRecDepth 100000 in
set_option maxHeartbeats 1000000 in
theorem impl_side_bad (n : Int) (h : ¬ (n = 16 ∨ n = 64)) (w : World) :
    Calls Try.prog 41 #[.int .i64 n] w fun e w' => e = .returned (.int .i64 0) ∧ w = w' := by
  have b1 : (n == 16) = false := by rw [beq_eq_false_iff_ne]; omega
  have b2 : (n == 64) = false := by rw [beq_eq_false_iff_ne]; omega
  clear h
  go_enter Try.func41, Try.ntmps41
  go_wp2
  go_ret
  exact ⟨rfl, rfl⟩

set_option maxRecDepth 100000 in
set_option maxHeartbeats 1000000 in
theorem pairfits_any (x y left : Int) (w : World) :
    Calls Try.prog 42 #[.agg #[.int .i64 x, .int .i64 y], .int .i64 left] w fun e w' => e = .returned (.bool (fitV (x, y) left)) ∧ Below w.heap.size w w' := by
  have LO := Lib.hid (levelok_any y)
  cases hf : fitV (x, y) left with
  | true =>
    obtain ⟨h1, h2, h3, h4⟩ := fitV_parts hf
    rw [h4] at LO
    have b1 : decide (0 ≤ x) = true := by simpa using h1
    have b2 : decide (x < left) = true := by simpa using h2
    have b3 : (y != 0) = true := by rw [bne_iff_ne]; exact h3
    clear h1 h2 h3 h4 hf
    go_enter Try.func42, Try.ntmps42
    go_wp2_with fail
    refine (LO.out _).mono ?_
    rintro e w' ⟨rfl, hw⟩
    subst hw
    go_wp2
    go_ret
    exact ⟨rfl, below_new _ _⟩
  | false =>
    rcases fitV_cases hf with h1 | ⟨h1, h2⟩ | ⟨h1, h2, h3⟩ | ⟨h1, h2, h3, h4⟩
    · have b1 : decide (0 ≤ x) = false := by simpa using h1
      clear h1 hf LO
      go_enter Try.func42, Try.ntmps42
      go_wp2
      go_ret
      exact ⟨rfl, below_new _ _⟩
    · have b1 : decide (0 ≤ x) = true := by simpa using h1
      have b2 : decide (x < left) = false := by simpa using h2
      clear h1 h2 hf LO
      go_enter Try.func42, Try.ntmps42
      go_wp2
      go_ret
      exact ⟨rfl, below_new _ _⟩
    · have b1 : decide (0 ≤ x) = true := by simpa using h1
      have b2 : decide (x < left) = true := by simpa using h2
      subst h3
      clear h1 h2 hf LO
      go_enter Try.func42, Try.ntmps42
      go_wp2
      go_ret
      exact ⟨rfl, below_new _ _⟩
    · rw [h4] at LO
      have b1 : decide (0 ≤ x) = true := by simpa using h1
      have b2 : decide (x < left) = true := by simpa using h2
      have b3 : (y != 0) = true := by rw [bne_iff_ne]; exact h3
      clear h1 h2 h3 h4 hf
      go_enter Try.func42, Try.ntmps42
      go_wp2_with fail
      refine (LO.out _).mono ?_
      rintro e w' ⟨rfl, hw⟩
      subst hw
      go_wp2
      go_ret
      exact ⟨rfl, below_new _ _⟩

set_option maxRecDepth 100000 in
set_option maxHeartbeats 2000000 in
theorem impl_levelsfrom_any (A : Option Addr) (ca : Nat) (p : EntL) (n : Int) (hpl : p.length ≤ 1048576) (w : World) (hA : Ents w w.heap.size A p) :
    Calls Try.prog 13 #[.slice A p.length ca, .int .i64 n] w fun e w' => ∃ A' c, e = .returned (.tuple #[.slice A' (lfR p n).length c, .int .i64 (lfE p n)]) ∧ OwnI w' w.heap.size A' c (lfR p n) ∧ Below w.heap.size w w' := by
  obtain ⟨m, hm⟩ : ∃ m, m = p.length := ⟨_, rfl⟩
  by_cases hn : n = 16 ∨ n = 64
  · obtain ⟨N, rfl⟩ := Int.eq_ofNat_of_zero_le (show 0 ≤ n by omega)
    have hN : N = 16 ∨ N = 64 := by omega
    have hN64 : N ≤ 64 := by omega
    have hN16 : 16 ≤ N := by omega
    rw [← hm] at hpl ⊢
    have HA := Lib.hid hA; have HM := Lib.hid hm; have HNN := Lib.hid hN
    have hmk := make_ints N (N : Int) rfl (by omega)
    have O0 : Hid ((w.alloc (.cells (ivs (List.replicate N 0)).toArray 3)).ownsRow w.heap.size 3 1 (.slice (some ⟨w.heap.size, 0, none⟩) N N) N (ivs (List.replicate N 0))) := Lib.hid (by
      have := own_ints w w.heap.size (List.replicate N 0) (Nat.le_refl _) (by simp [maxLen]; omega)
      unfold OwnI at this
      simpa using this)
    have B0 := Lib.hid (below_new w (.cells (ivs (List.replicate N 0)).toArray 3))
    have SI := Lib.hid (impl_side_any N)
    have PF := Lib.hid pairfits_any
    have bS : (sideN N == 0) = false := by rcases hN with rfl | rfl <;> decide
    obtain ⟨Z, hZ⟩ : ∃ Z, Z = sideN N := ⟨_, rfl⟩
    rw [← hZ] at SI bS
    clear hZ
    clear hA hm hN
    have HN64 := Lib.hid hn; clear hn
    go_enter Try.func13, Try.ntmps13
    go_wp2_with fail
    refine (SI.out _).mono ?_
    rintro e w' ⟨rfl, hw⟩
    subst hw
    go_wp2
    clear hmk
    go_loopw [7, 9, 17] (fun x ptr i wr => ∃ (j a : Nat) (o : List Int), j ≤ m ∧ i = .int .i64 j ∧ x = .int .i64 a ∧ a ≤ N ∧ o.length = N ∧ lfT N p j = some (o, a) ∧ wr.ownsRow w.heap.size 3 1 (.slice (some ⟨w.heap.size, 0, none⟩) N N) N (ivs o) ∧ Below w.heap.size w wr)
      (fun _ _ i _ => m - (intOf i).toNat)
    case atStart => exact ⟨0, 0, List.replicate N 0, Nat.zero_le _, rfl, rfl, Nat.zero_le _, List.length_replicate, rfl, O0.out, B0.out⟩
    case round =>
      obtain ⟨j, a, o, hj, rfl, rfl, haN, hol, hlf, hown, hbel⟩ := hrel
      have HT := Lib.hid hlf; have HOL := Lib.hid hol; have O1 := Lib.hid hown; have B1 := Lib.hid hbel
      clear hlf hol
      by_cases hlt : j < m
      · obtain ⟨b, off, rfl, hb, hc⟩ := HA.out.at j (by rw [← HM.out]; exact hlt)
        obtain ⟨c1, c2⟩ := hc j (by rw [← HM.out]; exact hlt)
        rw [← hbel.cell (p := ⟨b, off + j * 2, none⟩) hb] at c1
        rw [← hbel.cell (p := ⟨b, off + j * 2 + 1, none⟩) hb] at c2
        clear hc
        obtain ⟨x, hx⟩ : ∃ x, x = entAt p j := ⟨_, rfl⟩
        rw [← hx] at c1 c2
        obtain ⟨x1, x2⟩ := x
        have hst := lfT_step HT.out hx
        have HS := Lib.hid hst
        clear hx hst hown hbel
        have hlt2 : decide ((j : Int) < (m : Int)) = true := by simp; omega
        cases hf : fitV (x1, x2) ((N : Int) - (a : Int)) with
        | false =>
          have HF := Lib.hid hf
          have PX := Lib.hid (PF.out x1 x2 ((N : Int) - (a : Int)))
          rw [hf] at PX
          clear hf
          go_wp2_with fail
          refine (PX.out _).mono ?_
          rintro e w' ⟨rfl, hb'⟩
          have B2 := Lib.hid (below_up (B1.out.alloc B1.out.size _) hb' (by have := B1.out.size; simp; omega))
          clear hb'
          go_wp2
          go_ret2
          obtain ⟨r1, r2⟩ := lfO_none (n := N) (p := p) (j := j + 1) (by rw [← HM.out]; omega) (by rw [HS.out, HF.out]; rfl)
          rw [r1, r2]
          exact ⟨_, _, rfl, World.ownsRow_nil _ w.heap.size 3 1, B2.out⟩
        | true =>
          obtain ⟨h1, h2, h3, h4⟩ := fitV_parts hf
          have HF := Lib.hid hf
          have PX := Lib.hid (PF.out x1 x2 ((N : Int) - (a : Int)))
          rw [hf] at PX
          obtain ⟨r, rfl⟩ := Int.eq_ofNat_of_zero_le h1
          clear hf h1 h3 h4
          go_wp2_with fail
          refine (PX.out _).mono ?_
          rintro e w' ⟨rfl, hb'⟩
          obtain ⟨k0, k1⟩ := box2_kept hb'
          have B2 : Hid (Below w.heap.size w w') := Lib.hid (below_up (B1.out.alloc B1.out.size _) hb' (by have := B1.out.size; simp; omega))
          have hown2 : w'.ownsRow w.heap.size 3 1 (.slice (some ⟨w.heap.size, 0, none⟩) N N) N (ivs o) := own_keep (O1.out.alloc _) hb'
          clear hb' c1 c2
          have har : a + r < N := by omega
          obtain ⟨v0, hcell⟩ : ∃ b0 : Int, w'.cell? ⟨w.heap.size, a + r, none⟩ = some (.int .i64 b0) := ⟨_, (hown2.cellAt (a + r) (by omega)).trans (ivs_at o (a + r) (by rw [HOL.out]; exact har))⟩
          have hz := hown2.frozenAt (a + r)
          have s1 := hown2.stored (a + r) (.int .i64 x2)
          rw [ivs_set] at s1
          have S1 := Lib.hid s1.1
          have S3 := Lib.hid (B2.out.setCell (p := ⟨w.heap.size, a + r, none⟩) (Nat.le_refl _) (.int .i64 x2))
          clear s1 hown2
          go_wp2
          go_roundw
          case rel => exact ⟨j + 1, a + r + 1, o.set (a + r) x2, by omega, by go_num, by go_num, by omega, by rw [List.length_set]; exact HOL.out, by rw [HS.out, HF.out]; rfl, S1.out, S3.out⟩
          case measure => simp [intOf]; omega
      · obtain rfl : j = m := by omega
        obtain ⟨r1, r2⟩ := lfO_some HNN.out (by rw [← HM.out]; exact HT.out)
        have R1 := Lib.hid r1; have R2 := Lib.hid r2
        clear hown hbel r1 r2
        have hlt2 : decide ((j : Int) < (j : Int)) = false := by simp
        have O3 : Hid (OwnI wr w.heap.size (some ⟨w.heap.size, 0, none⟩) N o) := Lib.hid (by unfold OwnI; rw [HOL.out]; exact O1.out)
        go_wp2
        go_ret2
        rw [R1.out, R2.out]
        refine ⟨some ⟨w.heap.size, 0, none⟩, N, by rw [HOL.out]; rfl, O3.out, B1.out⟩
  · obtain ⟨r1, r2⟩ := lfO_bad (p := p) hn
    have SB := Lib.hid (impl_side_bad n hn)
    rw [r1, r2, ← hm]
    rw [← hm] at hpl
    have HON : Hid (OwnI w w.heap.size none 0 []) := Lib.hid (World.ownsRow_nil w w.heap.size 3 1)
    clear hA hm hn r1 r2
    go_enter Try.func13, Try.ntmps13
    go_wp2_with fail
    refine (SB.out _).mono ?_
    rintro e w' ⟨rfl, hw⟩
    subst hw
    go_wp2
    go_ret2
    exact ⟨none, 0, rfl, HON.out, Below.refl _ _⟩

set_option maxRecDepth 100000 in
set_option maxHeartbeats 2000000 in
theorem spec_levelsfrom_any (A : Option Addr) (ca : Nat) (p : EntL) (n : Int) (hpl : p.length ≤ 1048576) (w : World) (hA : Ents w w.heap.size A p) :
    Calls Try.prog 17 #[.slice A p.length ca, .int .i64 n] w fun e w' => ∃ A' c, e = .returned (.tuple #[.slice A' (lfR p n).length c, .int .i64 (lfE p n)]) ∧ OwnI w' w.heap.size A' c (lfR p n) ∧ Below w.heap.size w w' := by
  obtain ⟨m, hm⟩ : ∃ m, m = p.length := ⟨_, rfl⟩
  by_cases hn : n = 16 ∨ n = 64
  · obtain ⟨N, rfl⟩ := Int.eq_ofNat_of_zero_le (show 0 ≤ n by omega)
    have hN : N = 16 ∨ N = 64 := by omega
    have hN64 : N ≤ 64 := by omega
    have hN16 : 16 ≤ N := by omega
    rw [← hm] at hpl ⊢
    have HA := Lib.hid hA; have HM := Lib.hid hm; have HNN := Lib.hid hN
    have hmk := make_ints N (N : Int) rfl (by omega)
    have O0 : Hid ((w.alloc (.cells (ivs (List.replicate N 0)).toArray 3)).ownsRow w.heap.size 3 1 (.slice (some ⟨w.heap.size, 0, none⟩) N N) N (ivs (List.replicate N 0))) := Lib.hid (by
      have := own_ints w w.heap.size (List.replicate N 0) (Nat.le_refl _) (by simp [maxLen]; omega)
      unfold OwnI at this
      simpa using this)
    have B0 := Lib.hid (below_new w (.cells (ivs (List.replicate N 0)).toArray 3))
    have LO := Lib.hid l1in_v
    clear hA hm hN
    have HN64 := Lib.hid hn; clear hn
    by_cases h16 : N = 16
    · have c16 : ((N : Int) != 16) = false := by rw [bne_eq_false_iff_eq]; omega
      clear h16
      go_enter Try.func17, Try.ntmps17
      go_wp2
      clear hmk
      go_loopw [7, 8] (fun x i wr => ∃ (j a : Nat) (o : List Int), j ≤ m ∧ i = .int .i64 j ∧ x = .int .i64 a ∧ a ≤ N ∧ o.length = N ∧ lfT N p j = some (o, a) ∧ wr.ownsRow w.heap.size 3 1 (.slice (some ⟨w.heap.size, 0, none⟩) N N) N (ivs o) ∧ Below w.heap.size w wr)
        (fun _ i _ => m - (intOf i).toNat)
      case atStart => exact ⟨0, 0, List.replicate N 0, Nat.zero_le _, rfl, rfl, Nat.zero_le _, List.length_replicate, rfl, O0.out, B0.out⟩
      case round =>
        obtain ⟨j, a, o, hj, rfl, rfl, haN, hol, hlf, hown, hbel⟩ := hrel
        have HT := Lib.hid hlf; have HOL := Lib.hid hol; have O1 := Lib.hid hown; have B1 := Lib.hid hbel
        clear hlf hol
        by_cases hlt : j < m
        · obtain ⟨b, off, rfl, hb, hc⟩ := HA.out.at j (by rw [← HM.out]; exact hlt)
          obtain ⟨c1, c2⟩ := hc j (by rw [← HM.out]; exact hlt)
          rw [← hbel.cell (p := ⟨b, off + j * 2, none⟩) hb] at c1
          rw [← hbel.cell (p := ⟨b, off + j * 2 + 1, none⟩) hb] at c2
          clear hc
          obtain ⟨x, hx⟩ : ∃ x, x = entAt p j := ⟨_, rfl⟩
          rw [← hx] at c1 c2
          obtain ⟨x1, x2⟩ := x
          have hst := lfT_step HT.out hx
          have HS := Lib.hid hst
          clear hx hst hown hbel
          have hlt2 : decide ((j : Int) < (m : Int)) = true := by simp; omega
          cases hf : fitV (x1, x2) ((N : Int) - (a : Int)) with
          | false =>
            have HF := Lib.hid hf
            rcases fitV_cases hf with h1 | ⟨h1, h2⟩ | ⟨h1, h2, h3⟩ | ⟨h1, h2, h3, h4⟩
            · have b1 : decide (x1 < 0) = true := by simpa using h1
              clear h1
              clear hf
              have EO : Hid (OwnI (wr.alloc (.cells (ivs []).toArray 3)) w.heap.size (some ⟨wr.heap.size, 0, none⟩) 0 []) := Lib.hid (own_ints wr w.heap.size [] B1.out.size (by simp))
              have EB := Lib.hid (B1.out.alloc B1.out.size (.cells (ivs []).toArray 3))
              go_wp2
              go_ret2
              obtain ⟨r1, r2⟩ := lfO_none (n := N) (p := p) (j := j + 1) (by rw [← HM.out]; omega) (by rw [HS.out, HF.out]; rfl)
              rw [r1, r2]
              exact ⟨_, _, rfl, EO.out, EB.out⟩
            · have b1 : decide (x1 < 0) = false := by simpa using h1
              have b2 : decide ((N : Int) - (a : Int) ≤ x1) = true := by simpa using h2
              clear h1 h2
              clear hf
              have EO : Hid (OwnI (wr.alloc (.cells (ivs []).toArray 3)) w.heap.size (some ⟨wr.heap.size, 0, none⟩) 0 []) := Lib.hid (own_ints wr w.heap.size [] B1.out.size (by simp))
              have EB := Lib.hid (B1.out.alloc B1.out.size (.cells (ivs []).toArray 3))
              go_wp2
              go_ret2
              obtain ⟨r1, r2⟩ := lfO_none (n := N) (p := p) (j := j + 1) (by rw [← HM.out]; omega) (by rw [HS.out, HF.out]; rfl)
              rw [r1, r2]
              exact ⟨_, _, rfl, EO.out, EB.out⟩
            · have b1 : decide (x1 < 0) = false := by simpa using h1
              have b2 : decide ((N : Int) - (a : Int) ≤ x1) = false := by simpa using h2
              subst h3
              clear h1 h2
              clear hf
              have EO : Hid (OwnI (wr.alloc (.cells (ivs []).toArray 3)) w.heap.size (some ⟨wr.heap.size, 0, none⟩) 0 []) := Lib.hid (own_ints wr w.heap.size [] B1.out.size (by simp))
              have EB := Lib.hid (B1.out.alloc B1.out.size (.cells (ivs []).toArray 3))
              go_wp2
              go_ret2
              obtain ⟨r1, r2⟩ := lfO_none (n := N) (p := p) (j := j + 1) (by rw [← HM.out]; omega) (by rw [HS.out, HF.out]; rfl)
              rw [r1, r2]
              exact ⟨_, _, rfl, EO.out, EB.out⟩
            · have b1 : decide (x1 < 0) = false := by simpa using h1
              have b2 : decide ((N : Int) - (a : Int) ≤ x1) = false := by simpa using h2
              have b3 : (x2 == 0) = false := by rw [beq_eq_false_iff_ne]; exact h3
              have LX := Lib.hid (LO.out x2)
              rw [h4] at LX
              clear h1 h2 h3 h4
              clear hf
              go_wp2_with fail
              refine (LX.out _).mono ?_
              rintro e w' ⟨rfl, hw⟩
              subst hw
              have EO : Hid (OwnI (wr.alloc (.cells (ivs []).toArray 3)) w.heap.size (some ⟨wr.heap.size, 0, none⟩) 0 []) := Lib.hid (own_ints wr w.heap.size [] B1.out.size (by simp))
              have EB := Lib.hid (B1.out.alloc B1.out.size (.cells (ivs []).toArray 3))
              go_wp2
              go_ret2
              obtain ⟨r1, r2⟩ := lfO_none (n := N) (p := p) (j := j + 1) (by rw [← HM.out]; omega) (by rw [HS.out, HF.out]; rfl)
              rw [r1, r2]
              exact ⟨_, _, rfl, EO.out, EB.out⟩
          | true =>
            obtain ⟨h1, h2, h3, h4⟩ := fitV_parts hf
            have HF := Lib.hid hf
            have b1 : decide (x1 < 0) = false := by simpa using h1
            have b2 : decide ((N : Int) - (a : Int) ≤ x1) = false := by simpa using h2
            have b3 : (x2 == 0) = false := by rw [beq_eq_false_iff_ne]; exact h3
            have LX := Lib.hid (LO.out x2)
            rw [h4] at LX
            obtain ⟨r, rfl⟩ := Int.eq_ofNat_of_zero_le h1
            clear hf h1 h3 h4
            go_wp2_with fail
            refine (LX.out _).mono ?_
            rintro e w' ⟨rfl, hw⟩
            subst hw
            have B2 := B1
            have hown2 := O1.out
            have har : a + r < N := by omega
            obtain ⟨v0, hcell⟩ : ∃ b0 : Int, wr.cell? ⟨w.heap.size, a + r, none⟩ = some (.int .i64 b0) := ⟨_, (hown2.cellAt (a + r) (by omega)).trans (ivs_at o (a + r) (by rw [HOL.out]; exact har))⟩
            have hz := hown2.frozenAt (a + r)
            have s1 := hown2.stored (a + r) (.int .i64 x2)
            rw [ivs_set] at s1
            have S1 := Lib.hid s1.1
            have S3 := Lib.hid (B2.out.setCell (p := ⟨w.heap.size, a + r, none⟩) (Nat.le_refl _) (.int .i64 x2))
            clear s1 hown2
            go_wp2
            go_roundw
            case rel => exact ⟨j + 1, a + r + 1, o.set (a + r) x2, by omega, by go_num, by go_num, by omega, by rw [List.length_set]; exact HOL.out, by rw [HS.out, HF.out]; rfl, S1.out, S3.out⟩
            case measure => simp [intOf]; omega
        · obtain rfl : j = m := by omega
          obtain ⟨r1, r2⟩ := lfO_some HNN.out (by rw [← HM.out]; exact HT.out)
          have R1 := Lib.hid r1; have R2 := Lib.hid r2
          clear hown hbel r1 r2
          have hlt2 : decide ((j : Int) < (j : Int)) = false := by simp
          have O3 : Hid (OwnI wr w.heap.size (some ⟨w.heap.size, 0, none⟩) N o) := Lib.hid (by unfold OwnI; rw [HOL.out]; exact O1.out)
          go_wp2
          go_ret2
          rw [R1.out, R2.out]
          refine ⟨some ⟨w.heap.size, 0, none⟩, N, by rw [HOL.out]; rfl, O3.out, B1.out⟩
    · have c16 : ((N : Int) != 16) = true := by rw [bne_iff_ne]; omega
      have c64 : ((N : Int) != 64) = false := by rw [bne_eq_false_iff_eq]; have := HNN.out; omega
      clear h16
      go_enter Try.func17, Try.ntmps17
      go_wp2
      clear hmk
      go_loopw [7, 8] (fun x i wr => ∃ (j a : Nat) (o : List Int), j ≤ m ∧ i = .int .i64 j ∧ x = .int .i64 a ∧ a ≤ N ∧ o.length = N ∧ lfT N p j = some (o, a) ∧ wr.ownsRow w.heap.size 3 1 (.slice (some ⟨w.heap.size, 0, none⟩) N N) N (ivs o) ∧ Below w.heap.size w wr)
        (fun _ i _ => m - (intOf i).toNat)
      case atStart => exact ⟨0, 0, List.replicate N 0, Nat.zero_le _, rfl, rfl, Nat.zero_le _, List.length_replicate, rfl, O0.out, B0.out⟩
      case round =>
        obtain ⟨j, a, o, hj, rfl, rfl, haN, hol, hlf, hown, hbel⟩ := hrel
        have HT := Lib.hid hlf; have HOL := Lib.hid hol; have O1 := Lib.hid hown; have B1 := Lib.hid hbel
        clear hlf hol
        by_cases hlt : j < m
        · obtain ⟨b, off, rfl, hb, hc⟩ := HA.out.at j (by rw [← HM.out]; exact hlt)
          obtain ⟨c1, c2⟩ := hc j (by rw [← HM.out]; exact hlt)
          rw [← hbel.cell (p := ⟨b, off + j * 2, none⟩) hb] at c1
          rw [← hbel.cell (p := ⟨b, off + j * 2 + 1, none⟩) hb] at c2
          clear hc
          obtain ⟨x, hx⟩ : ∃ x, x = entAt p j := ⟨_, rfl⟩
          rw [← hx] at c1 c2
          obtain ⟨x1, x2⟩ := x
          have hst := lfT_step HT.out hx
          have HS := Lib.hid hst
          clear hx hst hown hbel
          have hlt2 : decide ((j : Int) < (m : Int)) = true := by simp; omega
          cases hf : fitV (x1, x2) ((N : Int) - (a : Int)) with
          | false =>
            have HF := Lib.hid hf
            rcases fitV_cases hf with h1 | ⟨h1, h2⟩ | ⟨h1, h2, h3⟩ | ⟨h1, h2, h3, h4⟩
            · have b1 : decide (x1 < 0) = true := by simpa using h1
              clear h1
              clear hf
              have EO : Hid (OwnI (wr.alloc (.cells (ivs []).toArray 3)) w.heap.size (some ⟨wr.heap.size, 0, none⟩) 0 []) := Lib.hid (own_ints wr w.heap.size [] B1.out.size (by simp))
              have EB := Lib.hid (B1.out.alloc B1.out.size (.cells (ivs []).toArray 3))
              go_wp2
              go_ret2
              obtain ⟨r1, r2⟩ := lfO_none (n := N) (p := p) (j := j + 1) (by rw [← HM.out]; omega) (by rw [HS.out, HF.out]; rfl)
              rw [r1, r2]
              exact ⟨_, _, rfl, EO.out, EB.out⟩
            · have b1 : decide (x1 < 0) = false := by simpa using h1
              have b2 : decide ((N : Int) - (a : Int) ≤ x1) = true := by simpa using h2
              clear h1 h2
              clear hf
              have EO : Hid (OwnI (wr.alloc (.cells (ivs []).toArray 3)) w.heap.size (some ⟨wr.heap.size, 0, none⟩) 0 []) := Lib.hid (own_ints wr w.heap.size [] B1.out.size (by simp))
              have EB := Lib.hid (B1.out.alloc B1.out.size (.cells (ivs []).toArray 3))
              go_wp2
              go_ret2
              obtain ⟨r1, r2⟩ := lfO_none (n := N) (p := p) (j := j + 1) (by rw [← HM.out]; omega) (by rw [HS.out, HF.out]; rfl)
              rw [r1, r2]
              exact ⟨_, _, rfl, EO.out, EB.out⟩
            · have b1 : decide (x1 < 0) = false := by simpa using h1
              have b2 : decide ((N : Int) - (a : Int) ≤ x1) = false := by simpa using h2
              subst h3
              clear h1 h2
              clear hf
              have EO : Hid (OwnI (wr.alloc (.cells (ivs []).toArray 3)) w.heap.size (some ⟨wr.heap.size, 0, none⟩) 0 []) := Lib.hid (own_ints wr w.heap.size [] B1.out.size (by simp))
              have EB := Lib.hid (B1.out.alloc B1.out.size (.cells (ivs []).toArray 3))
              go_wp2
              go_ret2
              obtain ⟨r1, r2⟩ := lfO_none (n := N) (p := p) (j := j + 1) (by rw [← HM.out]; omega) (by rw [HS.out, HF.out]; rfl)
              rw [r1, r2]
              exact ⟨_, _, rfl, EO.out, EB.out⟩
            · have b1 : decide (x1 < 0) = false := by simpa using h1
              have b2 : decide ((N : Int) - (a : Int) ≤ x1) = false := by simpa using h2
              have b3 : (x2 == 0) = false := by rw [beq_eq_false_iff_ne]; exact h3
              have LX := Lib.hid (LO.out x2)
              rw [h4] at LX
              clear h1 h2 h3 h4
              clear hf
              go_wp2_with fail
              refine (LX.out _).mono ?_
              rintro e w' ⟨rfl, hw⟩
              subst hw
              have EO : Hid (OwnI (wr.alloc (.cells (ivs []).toArray 3)) w.heap.size (some ⟨wr.heap.size, 0, none⟩) 0 []) := Lib.hid (own_ints wr w.heap.size [] B1.out.size (by simp))
              have EB := Lib.hid (B1.out.alloc B1.out.size (.cells (ivs []).toArray 3))
              go_wp2
              go_ret2
              obtain ⟨r1, r2⟩ := lfO_none (n := N) (p := p) (j := j + 1) (by rw [← HM.out]; omega) (by rw [HS.out, HF.out]; rfl)
              rw [r1, r2]
              exact ⟨_, _, rfl, EO.out, EB.out⟩
          | true =>
            obtain ⟨h1, h2, h3, h4⟩ := fitV_parts hf
            have HF := Lib.hid hf
            have b1 : decide (x1 < 0) = false := by simpa using h1
            have b2 : decide ((N : Int) - (a : Int) ≤ x1) = false := by simpa using h2
            have b3 : (x2 == 0) = false := by rw [beq_eq_false_iff_ne]; exact h3
            have LX := Lib.hid (LO.out x2)
            rw [h4] at LX
            obtain ⟨r, rfl⟩ := Int.eq_ofNat_of_zero_le h1
            clear hf h1 h3 h4
            go_wp2_with fail
            refine (LX.out _).mono ?_
            rintro e w' ⟨rfl, hw⟩
            subst hw
            have B2 := B1
            have hown2 := O1.out
            have har : a + r < N := by omega
            obtain ⟨v0, hcell⟩ : ∃ b0 : Int, wr.cell? ⟨w.heap.size, a + r, none⟩ = some (.int .i64 b0) := ⟨_, (hown2.cellAt (a + r) (by omega)).trans (ivs_at o (a + r) (by rw [HOL.out]; exact har))⟩
            have hz := hown2.frozenAt (a + r)
            have s1 := hown2.stored (a + r) (.int .i64 x2)
            rw [ivs_set] at s1
            have S1 := Lib.hid s1.1
            have S3 := Lib.hid (B2.out.setCell (p := ⟨w.heap.size, a + r, none⟩) (Nat.le_refl _) (.int .i64 x2))
            clear s1 hown2
            go_wp2
            go_roundw
            case rel => exact ⟨j + 1, a + r + 1, o.set (a + r) x2, by omega, by go_num, by go_num, by omega, by rw [List.length_set]; exact HOL.out, by rw [HS.out, HF.out]; rfl, S1.out, S3.out⟩
            case measure => simp [intOf]; omega
        · obtain rfl : j = m := by omega
          obtain ⟨r1, r2⟩ := lfO_some HNN.out (by rw [← HM.out]; exact HT.out)
          have R1 := Lib.hid r1; have R2 := Lib.hid r2
          clear hown hbel r1 r2
          have hlt2 : decide ((j : Int) < (j : Int)) = false := by simp
          have O3 : Hid (OwnI wr w.heap.size (some ⟨w.heap.size, 0, none⟩) N o) := Lib.hid (by unfold OwnI; rw [HOL.out]; exact O1.out)
          go_wp2
          go_ret2
          rw [R1.out, R2.out]
          refine ⟨some ⟨w.heap.size, 0, none⟩, N, by rw [HOL.out]; rfl, O3.out, B1.out⟩
  · obtain ⟨r1, r2⟩ := lfO_bad (p := p) hn
    have c16 : (n != 16) = true := by rw [bne_iff_ne]; omega
    have c64 : (n != 64) = true := by rw [bne_iff_ne]; omega
    rw [r1, r2, ← hm]
    rw [← hm] at hpl
    have EO := Lib.hid (own_ints w w.heap.size [] (Nat.le_refl _) (by simp))
    have EB := Lib.hid (below_new w (.cells (ivs []).toArray 3))
    clear hA hm hn r1 r2
    go_enter Try.func17, Try.ntmps17
    go_wp2
    go_ret2
    exact ⟨_, _, rfl, EO.out, EB.out⟩

end Go.Proofs.Ytgihpckibdnghaa
