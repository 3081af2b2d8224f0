/-
  Contracts of PairsOf and LevelsFrom, in both texts. Condition: the lists are no longer than 1048576 (the laws ask no more).
-/
import Derived.Test.YtgihpckibdnghaaRunA
namespace Go.Proofs.Ytgihpckibdnghaa
open Go.RowKit
set_option linter.unusedVariables false

/-- A row of pairs that the call owns is a slice. -/
theorem own_slice_pairs {w : World} {base : Nat} {v : Value} {n : Nat} {l : EntL} (h : w.ownsRow base 50 2 v n (ivs (els l))) (hn : n = l.length) : ∃ A c, v = .slice A l.length c ∧ OwnP w base A c l := by
  subst hn
  unfold OwnP
  rcases h.2 with ⟨h1, h2⟩ | ⟨g, cap, cur, h1, _⟩
  · rw [h2] at h ⊢
    exact ⟨none, 0, h1, by rw [← h1]; exact h⟩
  · exact ⟨_, _, h1, by rw [← h1]; exact h⟩
theorem prT_take (l : List Int) (j : Nat) (hj : j < l.length) : prT (l.take (j + 1)) = stP (prT (l.take j)) (l.getD j 0) := by
  rw [take_snoc_i l j hj, prT_snoc]

set_option maxRecDepth 100000 in
set_option maxHeartbeats 1000000 in
theorem impl_pairsof_any (A : Option Addr) (ca : Nat) (l : List Int) (w : World) (hA : Ints w w.heap.size A l) :
    Calls Try.prog 12 #[.slice A l.length ca] w fun e w' => ∃ A' c, e = .returned (.slice A' (prR l).length c) ∧ OwnP w' w.heap.size A' c (prR l) ∧ Below w.heap.size w w' := by
  have LO := Lib.hid (impl_levelsok_any A ca l w hA)
  cases hok : okV l with
  | false =>
    rw [hok] at LO
    have hr : prR l = [] := by unfold prR; rw [hok]; rfl
    rw [hr]
    have HON : Hid (OwnP w w.heap.size none 0 []) := Lib.hid (World.ownsRow_nil w w.heap.size 50 2)
    clear hr hok
    go_enter Try.func12, Try.ntmps12
    go_wp2_with fail
    refine LO.out.mono ?_
    rintro e w' ⟨rfl, hw⟩
    subst hw
    go_wp2
    go_ret
    exact ⟨none, 0, rfl, HON.out, Below.refl _ _⟩
  | true =>
    obtain ⟨i0, hi, hz0, hz1, hz2⟩ := info_parts Try.pinfo
    rw [hok] at LO
    obtain ⟨n, hn⟩ : ∃ n, n = l.length := ⟨_, rfl⟩
    have hn64 : n ≤ 64 := by have := okV_len hok; omega
    have hr : prR l = (prT l).1 := by unfold prR; rw [hok]; rfl
    have hnm := hA.1
    rw [← hn] at hnm LO
    rw [hr, ← hn]
    have HA := Lib.hid hA; have HN := Lib.hid hn
    have HON := Lib.hid (World.ownsRow_nil w w.heap.size 50 2)
    clear hA hn hok hr
    go_enter Try.func12, Try.ntmps12
    go_wp2_with fail
    refine LO.out.mono ?_
    rintro e w' ⟨rfl, hw⟩
    subst hw
    go_wp2
    go_loopw [3, 4, 6, 12] (fun v r x i wr => ∃ (j m k : Nat) (T : EntL), j ≤ n ∧ i = .int .i64 j ∧ r = .int .i64 k ∧ k ≤ j ∧ m ≤ j ∧ prT (l.take j) = (T, k) ∧ m = T.length ∧ wr.ownsRow w.heap.size 50 2 v m (ivs (els T)) ∧ Below w.heap.size w wr)
      (fun _ _ _ i _ => n - (intOf i).toNat)
    case atStart => exact ⟨0, 0, 0, [], Nat.zero_le _, rfl, rfl, Nat.le_refl _, Nat.le_refl _, rfl, rfl, HON.out, Below.refl _ _⟩
    case round =>
      obtain ⟨j, m, k, T, hj, rfl, rfl, hkj, hmj, hpt, hm, hown, hbel⟩ := hrel
      have HT := Lib.hid hpt; have HM := Lib.hid hm; have O1 := Lib.hid hown; have B1 := Lib.hid hbel
      clear hpt hm
      by_cases hlt : j < n
      · obtain ⟨b, off, rfl, hb, hc⟩ := HA.out.at j (by rw [← HN.out]; exact hlt)
        have c1 := hc j (by rw [← HN.out]; exact hlt)
        rw [← hbel.cell (p := ⟨b, off + j, none⟩) hb] at c1
        clear hc
        obtain ⟨x, hx⟩ : ∃ x, x = l.getD j 0 := ⟨_, rfl⟩
        rw [← hx] at c1
        have hstep : prT (l.take (j + 1)) = stP (T, k) x := by rw [prT_take l j (by rw [← HN.out]; exact hlt), HT.out, ← hx]
        have HS := Lib.hid hstep
        clear hx hstep
        by_cases h0 : x = 0
        · subst h0
          go_wp2
          go_roundw
          case rel => exact ⟨j + 1, m, k + 1, T, by omega, by go_num, by go_num, by omega, by omega, by rw [HS.out, stP_zero], HM.out, O1.out, B1.out⟩
          case measure => simp [intOf]; omega
        · have bx : (x == 0) = false := by rw [beq_eq_false_iff_ne]; exact h0
          have HX := Lib.hid h0; clear h0
          go_wp2_with (at_builtin; refine append_ent wr rfl (.tmp 20) (.tmp 24) 26 rfl w.heap.size 50 i0 _ Try.underlying26 hi hz0 hz1 hz2 rfl _ _ _ rfl O1.out _ _ rfl rfl (by omega) B1.out.size ?_; intro v' w' hown' hgr hvb)
          have hgr : World.grownBy _ w' u3.ownBlock := hgr
          have HG := Lib.hid hgr; have HO := Lib.hid hown'
          have HL : Hid (∀ k, u3.ownBlock = some k → w.heap.size ≤ k) := Lib.hid (fun k hk => (O1.out.lt k hk).1)
          clear hgr hown' hvb hown hbel
          go_roundw
          case rel =>
            refine ⟨j + 1, m + 1, 0, T ++ [((k : Int), x)], by omega, by go_num, rfl, by omega, by omega, by rw [HS.out, stP_other _ _ HX.out], by rw [List.length_append, HM.out]; rfl, HO.out, ?_⟩
            exact (B1.out.alloc B1.out.size _).grown HG.out (by have := B1.out.size; simp; omega) HL.out
          case measure => simp [intOf]; omega
      · obtain rfl : j = n := by omega
        have hlt2 : decide ((j : Int) < (j : Int)) = false := by simp
        have e1 : l.take j = l := List.take_of_length_le (by rw [← HN.out]; exact Nat.le_refl _)
        have e2 : (prT l).1 = T := by rw [← e1, HT.out]
        have E2 := Lib.hid e2
        obtain ⟨A3, c3, rfl, ho3⟩ := own_slice_pairs hown HM.out
        have O3 := Lib.hid ho3
        clear hown hbel e1 e2 ho3
        go_wp2
        go_ret
        rw [E2.out]
        exact ⟨_, _, rfl, O3.out, B1.out⟩

set_option maxRecDepth 100000 in
set_option maxHeartbeats 1000000 in
theorem spec_pairsof_any (A : Option Addr) (ca : Nat) (l : List Int) (w : World) (hA : Ints w w.heap.size A l) :
    Calls Try.prog 19 #[.slice A l.length ca] w fun e w' => ∃ A' c, e = .returned (.slice A' (prR l).length c) ∧ OwnP w' w.heap.size A' c (prR l) ∧ Below w.heap.size w w' := by
  obtain ⟨i0, hi, hz0, hz1, hz2⟩ := info_parts Try.pinfo
  have O0 := Lib.hid (own_pairs w w.heap.size [] (Nat.le_refl _) (by simp))
  have B0 := Lib.hid ((Below.refl w.heap.size w).alloc (Nat.le_refl _) (.cells (ivs (els [])).toArray 50))
  have LO := Lib.hid fun w hA => spec_levelsok_any A ca l w hA
  have HA := Lib.hid hA
  cases hok : okV l with
  | false =>
    rw [hok] at LO
    have hr : prR l = [] := by unfold prR; rw [hok]; rfl
    rw [hr]
    have hnm := hA.1
    have LX := Lib.hid (LO.out _ ((HA.out.below B0.out (Nat.le_refl _)).mono B0.out.size))
    clear hr hok hA LO
    by_cases h0 : l.length = 0
    · rw [h0]
      clear h0 LX hnm
      go_enter Try.func19, Try.ntmps19
      go_wp2
      go_loopw [3, 4, 5] (fun v r i wr => v = .slice (some ⟨w.heap.size, 0, none⟩) 0 0 ∧ r = .int .i64 0 ∧ i = .int .i64 0 ∧ wr = w.alloc (.cells (ivs (els [])).toArray 50)) (fun _ _ _ _ => 0)
      case atStart => exact ⟨rfl, rfl, rfl, rfl⟩
      case round =>
        obtain ⟨rfl, rfl, rfl, rfl⟩ := hrel
        go_wp2
        go_ret
        exact ⟨_, _, rfl, O0.out, B0.out⟩
    · have b0 : decide ((0 : Int) < (l.length : Int)) = true := by simp; omega
      obtain ⟨n, hn⟩ : ∃ n, n = l.length := ⟨_, rfl⟩
      rw [← hn] at b0 LX hnm
      rw [← hn]
      have hn0 : 0 < n := by omega
      clear h0 hn HA
      go_enter Try.func19, Try.ntmps19
      go_wp2
      go_loopw [3, 4, 5] (fun v r i wr => v = .slice (some ⟨w.heap.size, 0, none⟩) 0 0 ∧ r = .int .i64 0 ∧ i = .int .i64 0 ∧ wr = w.alloc (.cells (ivs (els [])).toArray 50)) (fun _ _ _ _ => 0)
      case atStart => exact ⟨rfl, rfl, rfl, rfl⟩
      case round =>
        obtain ⟨rfl, rfl, rfl, rfl⟩ := hrel
        go_wp2_with fail
        refine LX.out.mono ?_
        rintro e w' ⟨rfl, hw⟩
        subst hw
        go_wp2
        go_ret
        exact ⟨_, _, rfl, O0.out, B0.out⟩
  | true =>
    rw [hok] at LO
    obtain ⟨n, hn⟩ : ∃ n, n = l.length := ⟨_, rfl⟩
    have hn64 : n ≤ 64 := by have := okV_len hok; omega
    have hr : prR l = (prT l).1 := by unfold prR; rw [hok]; rfl
    have hnm := hA.1
    rw [← hn] at hnm LO
    rw [hr, ← hn]
    have HN := Lib.hid hn
    clear hA hn hok hr
    go_enter Try.func19, Try.ntmps19
    go_wp2
    go_loopw [3, 4, 5] (fun v r i wr => ∃ (j m k : Nat) (T : EntL), j ≤ n ∧ i = .int .i64 j ∧ r = .int .i64 k ∧ k ≤ j ∧ m ≤ j ∧ prT (l.take j) = (T, k) ∧ m = T.length ∧ wr.ownsRow w.heap.size 50 2 v m (ivs (els T)) ∧ Below w.heap.size w wr)
      (fun _ _ i _ => n - (intOf i).toNat)
    case atStart => exact ⟨0, 0, 0, [], Nat.zero_le _, rfl, rfl, Nat.le_refl _, Nat.le_refl _, rfl, rfl, O0.out, B0.out⟩
    case round =>
      obtain ⟨j, m, k, T, hj, rfl, rfl, hkj, hmj, hpt, hm, hown, hbel⟩ := hrel
      have HT := Lib.hid hpt; have HM := Lib.hid hm; have O1 := Lib.hid hown; have B1 := Lib.hid hbel
      clear hpt hm
      by_cases hlt : j < n
      · obtain ⟨b, off, rfl, hb, hc⟩ := HA.out.at j (by rw [← HN.out]; exact hlt)
        have c1 := hc j (by rw [← HN.out]; exact hlt)
        rw [← hbel.cell (p := ⟨b, off + j, none⟩) hb] at c1
        clear hc
        obtain ⟨x, hx⟩ : ∃ x, x = l.getD j 0 := ⟨_, rfl⟩
        rw [← hx] at c1
        have hstep : prT (l.take (j + 1)) = stP (T, k) x := by rw [prT_take l j (by rw [← HN.out]; exact hlt), HT.out, ← hx]
        have HS := Lib.hid hstep
        clear hx hstep
        by_cases h0 : x = 0
        · subst h0
          have hlt2 : decide ((j : Int) < (n : Int)) = true := by simp; omega
          clear hown hbel
          go_wp2_with fail
          refine (LO.out _ ((HA.out.below B1.out (Nat.le_refl _)).mono B1.out.size)).mono ?_
          rintro e w' ⟨rfl, hw⟩
          subst hw
          go_wp2
          go_roundw
          case rel => exact ⟨j + 1, m, k + 1, T, by omega, by go_num, by go_num, by omega, by omega, by rw [HS.out, stP_zero], HM.out, O1.out, B1.out⟩
          case measure => simp [intOf]; omega
        · have bx : (x == 0) = false := by rw [beq_eq_false_iff_ne]; exact h0
          have HX := Lib.hid h0; clear h0
          have hlt2 : decide ((j : Int) < (n : Int)) = true := by simp; omega
          clear hown hbel
          go_wp2_with fail
          refine (LO.out _ ((HA.out.below B1.out (Nat.le_refl _)).mono B1.out.size)).mono ?_
          rintro e w' ⟨rfl, hw⟩
          subst hw
          go_wp2_with (at_builtin; refine append_ent wr rfl (.tmp 24) (.tmp 31) 26 rfl w.heap.size 50 i0 _ Try.underlying26 hi hz0 hz1 hz2 rfl _ _ _ rfl O1.out _ _ rfl rfl (by omega) B1.out.size ?_; intro v' w' hown' hgr hvb)
          have hgr : World.grownBy _ w' u3.ownBlock := hgr
          have HG := Lib.hid hgr; have HO := Lib.hid hown'
          have HL : Hid (∀ k, u3.ownBlock = some k → w.heap.size ≤ k) := Lib.hid (fun k hk => (O1.out.lt k hk).1)
          clear hgr hown' hvb 
          go_roundw
          case rel =>
            refine ⟨j + 1, m + 1, 0, T ++ [((k : Int), x)], by omega, by go_num, rfl, by omega, by omega, by rw [HS.out, stP_other _ _ HX.out], by rw [List.length_append, HM.out]; rfl, HO.out, ?_⟩
            exact (B1.out.alloc B1.out.size _).grown HG.out (by have := B1.out.size; simp; omega) HL.out
          case measure => simp [intOf]; omega
      · obtain rfl : j = n := by omega
        have hlt2 : decide ((j : Int) < (j : Int)) = false := by simp
        have e1 : l.take j = l := List.take_of_length_le (by rw [← HN.out]; exact Nat.le_refl _)
        have e2 : (prT l).1 = T := by rw [← e1, HT.out]
        have E2 := Lib.hid e2
        obtain ⟨A3, c3, rfl, ho3⟩ := own_slice_pairs hown HM.out
        have O3 := Lib.hid ho3
        clear hown hbel e1 e2 ho3
        go_wp2
        go_ret
        rw [E2.out]
        exact ⟨_, _, rfl, O3.out, B1.out⟩

end Go.Proofs.Ytgihpckibdnghaa
