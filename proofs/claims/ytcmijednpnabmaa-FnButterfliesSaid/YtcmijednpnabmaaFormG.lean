/-
  Contracts of chapter 12's draws. Condition: the input is no longer than 1048576 bytes.
-/
import Derived.Test.YtcmijednpnabmaaDw
import Derived.Test.YtcmijednpnabmaaScanD
import Derived.Test.YtcmijednpnabmaaFormP
import Derived.Maps.AppendAt
namespace Go.Proofs.Ytcmijednpnabmaa
open Go.RowKit
set_option linter.unusedVariables false

theorem own_where {w : World} {base : Nat} {A : Option Addr} {n c : Nat} {l : List Int} (h : w.ownsRow base 3 1 (.slice A n c) n (ivs l)) (hl : l.length = n) (hn : 0 < n) : ∃ b, A = some ⟨b, 0, none⟩ ∧ base ≤ b ∧ b < w.heap.size ∧ n ≤ c ∧ c ≤ maxLen ∧ ∀ j, j < n → w.cell? ⟨b, j, none⟩ = some (.int .i64 (l.getD j 0)) := by
  have h0 := h
  rcases h.2 with ⟨h1, h2⟩ | ⟨g, cap, cur, h1, hb, hg, hnc, hcm, hcs, htake⟩
  · omega
  · simp only [Value.slice.injEq] at h1
    obtain ⟨rfl, _, rfl⟩ := h1
    exact ⟨g, rfl, hb, (Array.getElem?_eq_some_iff.1 hg).1, hnc, hcm, fun j hj => (World.ownsRow.cellAt h0 j (by omega)).trans (ivs_at l j (by omega))⟩
theorem ints_drop {w : World} {b n : Nat} {l : List Int} (hb : b < w.heap.size) (hl : l.length = n) (hn : n ≤ 1000) (hc : ∀ j, j < n → w.cell? ⟨b, j, none⟩ = some (.int .i64 (l.getD j 0))) (k : Nat) : Ints w w.heap.size (some ⟨b, k, none⟩) (l.drop k) := by
  refine ⟨by rw [List.length_drop]; omega, .inr ⟨b, k, rfl, hb, fun j hj => ?_⟩⟩
  rw [List.length_drop] at hj
  rw [hc (k + j) (by omega)]
  simp only [List.getD_eq_getElem?_getD, List.getElem?_drop]

set_option maxRecDepth 100000 in
set_option maxHeartbeats 4000000 in
theorem l12square_4 (A : Option Addr) (cap : Nat) (zs : List Int) (w0 w : World) (g : Nat) (h : Dw g A cap zs w0 w) :
    Calls Try.prog 46 #[.pointer (some ⟨g, 0, none⟩), .int .i64 4] w fun e w' => ∃ (l : List Int) (A' : Option Addr) (c : Nat), e = .returned (.slice A' l.length c) ∧ l.length ≤ 16 ∧ Ints w' w'.heap.size A' l ∧ Dw g A cap zs w0 w' := by
  obtain ⟨i0, hii, hz0, hz1, hz2⟩ := info_parts Try.iinfo
  have hgw : g < w.heap.size := h.lt
  have hs0 : w0.heap.size ≤ w.heap.size := h.size
  have BC := Lib.hid below_ex
  have PC := Lib.hid pick_ex
  have O0 := Lib.hid (own_ints w w.heap.size [] (Nat.le_refl _) (by simp))
  have D0 := Lib.hid (h.alloc (.cells (ivs []).toArray 3))
  clear h
  go_enter Try.func46, Try.ntmps46
  go_wp2
  go_loopw [5] (fun v wr => ∃ (j : Nat) (p : List Int), j ≤ 16 ∧ p.length = j ∧ wr.ownsRow w.heap.size 3 1 v j (ivs p) ∧ w.heap.size ≤ wr.heap.size ∧ Dw g A cap zs w0 wr)
    (fun v _ => 16 - lenOf v)
  case atStart => exact ⟨0, [], Nat.zero_le _, rfl, O0.out, by simp, D0.out⟩
  case round =>
    obtain ⟨j, p, hj, hpl, hown, hsz, hD⟩ := hrel
    obtain ⟨Av, cv, rfl⟩ := own_form2 hown
    have HPL := Lib.hid hpl; have HD := Lib.hid hD; have HO := Lib.hid hown; have HS := Lib.hid hsz
    clear hpl hown hsz hD
    by_cases hlt : j < 16
    · have d1 : decide ((j : Int) < 16) = true := by simp; omega
      go_wp2_with fail
      refine (BC.out 511 _ _ _ _ _ _ HD.out).mono ?_
      rintro e w1 ⟨x, rfl, hx, -, hD1, hg1⟩
      have hx1 := hx (by decide)
      have D1 := Lib.hid hD1; have O1 := Lib.hid (own_dw HO.out hg1 hgw); have S1 := Lib.hid (Nat.le_trans HS.out hg1.size)
      clear hx hD1 hg1
      go_wp2_with fail
      refine (BC.out 20000 _ _ _ _ _ _ D1.out).mono ?_
      rintro e w2 ⟨y, rfl, hy, -, hD2, hg2⟩
      have hy1 := hy (by decide)
      have D2 := Lib.hid hD2; have O2 := Lib.hid (own_dw O1.out hg2 hgw); have S2 := Lib.hid (Nat.le_trans S1.out hg2.size)
      clear hy hD2 hg2
      have D2a := Lib.hid (D2.out.alloc (.cells #[.int .i64 0, .int .i64 0, .int .i64 1, .int .i64 (-1), .int .i64 ((x : Int) - 255), .int .i64 ((y : Int) - 10000)] 3))
      have O2a := Lib.hid (O2.out.alloc (.cells #[.int .i64 0, .int .i64 0, .int .i64 1, .int .i64 (-1), .int .i64 ((x : Int) - 255), .int .i64 ((y : Int) - 10000)] 3))
      have hne : w2.heap.size ≠ g := by have := D2.out.lt; omega
      have PX := Lib.hid (PC.out [0, 0, 1, -1, (x : Int) - 255, (y : Int) - 10000] (by simp) (by simp) g A cap zs)
      go_wp2_with fail
      refine (PX.out _ _ w2.heap.size D2a.out (heap_alloc_new w2 _) hne).mono ?_
      rintro e w3 ⟨z, rfl, -, hD3, hg3⟩
      have O3 := own_dw O2a.out hg3 hgw
      have D3 := Lib.hid hD3; have S3 : w.heap.size ≤ w3.heap.size := Nat.le_trans S2.out (Nat.le_trans (by simp) hg3.size)
      clear hD3 hg3
      go_wp2_with (at_builtin; refine append_int w3 rfl (.tmp 13) (.tmp 23) 22 rfl w.heap.size 3 i0 Try.underlying22 hii hz0 hz1 hz2 _ _ _ rfl O3 _ rfl rfl (by omega) S3 ?_; intro v' w' hown' hgr hvb)
      have hgr : World.grownBy w3 w' (Value.slice Av j cv).ownBlock := hgr
      have D4 := Lib.hid (D3.out.grown hgr fun k hk => by have := (O3.lt k hk).1; omega)
      have O4 := Lib.hid hown'
      have S4 := Lib.hid (Nat.le_trans S3 hgr.size)
      obtain ⟨Av2, cv2, hv2⟩ := own_form2 hown'
      clear hvb hown' hgr O3 S3
      subst hv2
      go_roundw
      case rel => exact ⟨j + 1, p ++ [z], by omega, by rw [List.length_append, HPL.out]; rfl, O4.out, S4.out, D4.out⟩
      case measure => simp [lenOf]; omega
    · obtain rfl : j = 16 := by omega
      obtain ⟨b, rfl, hbw, hbs, hnc, hcm, hcells⟩ := own_where HO.out HPL.out (by decide)
      go_wp2_with fail
      refine (BC.out 14 _ _ _ _ _ _ HD.out).mono ?_
      rintro e w1 ⟨x, rfl, hx, -, hD1, hg1⟩
      have hx1 := hx (by decide)
      have D1 := Lib.hid hD1; have O1 := Lib.hid (own_dw HO.out hg1 hgw); have S1 := Lib.hid (Nat.le_trans HS.out hg1.size)
      clear hx hD1 hg1 hcells
      unfold maxLen at hcm
      by_cases hx0 : x = 0
      · subst hx0
        obtain ⟨b2, hb2, -, hbs2, -, -, hcells⟩ := own_where O1.out HPL.out (by decide)
        obtain rfl : b = b2 := by injection hb2 with h; injection h
        have I1 := Lib.hid (ints_drop hbs2 HPL.out (by decide) hcells 1)
        clear hcells hb2
        go_wp2
        go_ret
        exact ⟨p.drop 1, _, _, by rw [List.length_drop, HPL.out]; rfl, by rw [List.length_drop, HPL.out]; decide, I1.out, D1.out⟩
      · by_cases hx2 : x = 1
        · subst hx2
          go_wp2_with fail
          refine (BC.out 16 _ _ _ _ _ _ D1.out).mono ?_
          rintro e w2 ⟨k, rfl, hk, -, hD2, hg2⟩
          have hk1 : k < 16 := by have := hk (by decide); omega
          have D2 := Lib.hid hD2; have O2 := Lib.hid (own_dw O1.out hg2 hgw); have S2 := Lib.hid (Nat.le_trans S1.out hg2.size)
          clear hk hD2 hg2
          have D2a := Lib.hid (D2.out.alloc (.cells #[.int .i64 1000000000, .int .i64 1000000001, .int .i64 (-1000000001)] 3))
          have O2a := Lib.hid (O2.out.alloc (.cells #[.int .i64 1000000000, .int .i64 1000000001, .int .i64 (-1000000001)] 3))
          have hne : w2.heap.size ≠ g := by have := D2.out.lt; omega
          have PX := Lib.hid (PC.out [1000000000, 1000000001, -1000000001] (by simp) (by simp) g A cap zs)
          go_wp2_with fail
          refine (PX.out _ _ w2.heap.size D2a.out (heap_alloc_new w2 _) hne).mono ?_
          rintro e w3 ⟨z, rfl, -, hD3, hg3⟩
          have o3 := own_dw O2a.out hg3 hgw
          obtain ⟨v0, hcell⟩ : ∃ b0 : Int, w3.cell? ⟨b, k, none⟩ = some (.int .i64 b0) := ⟨_, (o3.cellAt k (by omega)).trans (ivs_at p k (by rw [HPL.out]; exact hk1))⟩
          have hz := o3.frozenAt k
          have s1 := o3.stored k (.int .i64 z)
          rw [ivs_set] at s1
          have HP2 : (p.set k z).length = 16 := by rw [List.length_set]; exact HPL.out
          obtain ⟨b2, hb2, -, hbs2, -, -, hcells⟩ := own_where s1.1 HP2 (by decide)
          obtain rfl : b = b2 := by injection hb2 with h; injection h
          have I3 := Lib.hid (ints_drop hbs2 HP2 (by decide) hcells 0)
          have D3 := Lib.hid (hD3.set (Nat.le_trans hs0 hbw) (Nat.lt_of_lt_of_le hgw hbw) k (.int .i64 z))
          have HP3 := Lib.hid HP2
          clear hcells hb2 s1 o3 hD3 hg3 HP2
          go_wp2
          go_ret
          exact ⟨p.set k z, _, _, by rw [HP3.out]; rfl, by rw [HP3.out]; decide, I3.out, D3.out⟩
        · have q0 : ((x : Int) == 0) = false := by rw [beq_eq_false_iff_ne]; omega
          have q1 : ((x : Int) == 1) = false := by rw [beq_eq_false_iff_ne]; omega
          obtain ⟨b2, hb2, -, hbs2, -, -, hcells⟩ := own_where O1.out HPL.out (by decide)
          obtain rfl : b = b2 := by injection hb2 with h; injection h
          have I1 := Lib.hid (ints_drop hbs2 HPL.out (by decide) hcells 0)
          clear hcells hb2
          go_wp2
          go_ret
          exact ⟨p, _, _, by rw [HPL.out]; rfl, by rw [HPL.out]; decide, I1.out, D1.out⟩

set_option maxRecDepth 100000 in
set_option maxHeartbeats 4000000 in
theorem l12square_8 (A : Option Addr) (cap : Nat) (zs : List Int) (w0 w : World) (g : Nat) (h : Dw g A cap zs w0 w) :
    Calls Try.prog 46 #[.pointer (some ⟨g, 0, none⟩), .int .i64 8] w fun e w' => ∃ (l : List Int) (A' : Option Addr) (c : Nat), e = .returned (.slice A' l.length c) ∧ l.length ≤ 64 ∧ Ints w' w'.heap.size A' l ∧ Dw g A cap zs w0 w' := by
  obtain ⟨i0, hii, hz0, hz1, hz2⟩ := info_parts Try.iinfo
  have hgw : g < w.heap.size := h.lt
  have hs0 : w0.heap.size ≤ w.heap.size := h.size
  have BC := Lib.hid below_ex
  have PC := Lib.hid pick_ex
  have O0 := Lib.hid (own_ints w w.heap.size [] (Nat.le_refl _) (by simp))
  have D0 := Lib.hid (h.alloc (.cells (ivs []).toArray 3))
  clear h
  go_enter Try.func46, Try.ntmps46
  go_wp2
  go_loopw [5] (fun v wr => ∃ (j : Nat) (p : List Int), j ≤ 64 ∧ p.length = j ∧ wr.ownsRow w.heap.size 3 1 v j (ivs p) ∧ w.heap.size ≤ wr.heap.size ∧ Dw g A cap zs w0 wr)
    (fun v _ => 64 - lenOf v)
  case atStart => exact ⟨0, [], Nat.zero_le _, rfl, O0.out, by simp, D0.out⟩
  case round =>
    obtain ⟨j, p, hj, hpl, hown, hsz, hD⟩ := hrel
    obtain ⟨Av, cv, rfl⟩ := own_form2 hown
    have HPL := Lib.hid hpl; have HD := Lib.hid hD; have HO := Lib.hid hown; have HS := Lib.hid hsz
    clear hpl hown hsz hD
    by_cases hlt : j < 64
    · have d1 : decide ((j : Int) < 64) = true := by simp; omega
      go_wp2_with fail
      refine (BC.out 511 _ _ _ _ _ _ HD.out).mono ?_
      rintro e w1 ⟨x, rfl, hx, -, hD1, hg1⟩
      have hx1 := hx (by decide)
      have D1 := Lib.hid hD1; have O1 := Lib.hid (own_dw HO.out hg1 hgw); have S1 := Lib.hid (Nat.le_trans HS.out hg1.size)
      clear hx hD1 hg1
      go_wp2_with fail
      refine (BC.out 20000 _ _ _ _ _ _ D1.out).mono ?_
      rintro e w2 ⟨y, rfl, hy, -, hD2, hg2⟩
      have hy1 := hy (by decide)
      have D2 := Lib.hid hD2; have O2 := Lib.hid (own_dw O1.out hg2 hgw); have S2 := Lib.hid (Nat.le_trans S1.out hg2.size)
      clear hy hD2 hg2
      have D2a := Lib.hid (D2.out.alloc (.cells #[.int .i64 0, .int .i64 0, .int .i64 1, .int .i64 (-1), .int .i64 ((x : Int) - 255), .int .i64 ((y : Int) - 10000)] 3))
      have O2a := Lib.hid (O2.out.alloc (.cells #[.int .i64 0, .int .i64 0, .int .i64 1, .int .i64 (-1), .int .i64 ((x : Int) - 255), .int .i64 ((y : Int) - 10000)] 3))
      have hne : w2.heap.size ≠ g := by have := D2.out.lt; omega
      have PX := Lib.hid (PC.out [0, 0, 1, -1, (x : Int) - 255, (y : Int) - 10000] (by simp) (by simp) g A cap zs)
      go_wp2_with fail
      refine (PX.out _ _ w2.heap.size D2a.out (heap_alloc_new w2 _) hne).mono ?_
      rintro e w3 ⟨z, rfl, -, hD3, hg3⟩
      have O3 := own_dw O2a.out hg3 hgw
      have D3 := Lib.hid hD3; have S3 : w.heap.size ≤ w3.heap.size := Nat.le_trans S2.out (Nat.le_trans (by simp) hg3.size)
      clear hD3 hg3
      go_wp2_with (at_builtin; refine append_int w3 rfl (.tmp 13) (.tmp 23) 22 rfl w.heap.size 3 i0 Try.underlying22 hii hz0 hz1 hz2 _ _ _ rfl O3 _ rfl rfl (by omega) S3 ?_; intro v' w' hown' hgr hvb)
      have hgr : World.grownBy w3 w' (Value.slice Av j cv).ownBlock := hgr
      have D4 := Lib.hid (D3.out.grown hgr fun k hk => by have := (O3.lt k hk).1; omega)
      have O4 := Lib.hid hown'
      have S4 := Lib.hid (Nat.le_trans S3 hgr.size)
      obtain ⟨Av2, cv2, hv2⟩ := own_form2 hown'
      clear hvb hown' hgr O3 S3
      subst hv2
      go_roundw
      case rel => exact ⟨j + 1, p ++ [z], by omega, by rw [List.length_append, HPL.out]; rfl, O4.out, S4.out, D4.out⟩
      case measure => simp [lenOf]; omega
    · obtain rfl : j = 64 := by omega
      obtain ⟨b, rfl, hbw, hbs, hnc, hcm, hcells⟩ := own_where HO.out HPL.out (by decide)
      go_wp2_with fail
      refine (BC.out 14 _ _ _ _ _ _ HD.out).mono ?_
      rintro e w1 ⟨x, rfl, hx, -, hD1, hg1⟩
      have hx1 := hx (by decide)
      have D1 := Lib.hid hD1; have O1 := Lib.hid (own_dw HO.out hg1 hgw); have S1 := Lib.hid (Nat.le_trans HS.out hg1.size)
      clear hx hD1 hg1 hcells
      unfold maxLen at hcm
      by_cases hx0 : x = 0
      · subst hx0
        obtain ⟨b2, hb2, -, hbs2, -, -, hcells⟩ := own_where O1.out HPL.out (by decide)
        obtain rfl : b = b2 := by injection hb2 with h; injection h
        have I1 := Lib.hid (ints_drop hbs2 HPL.out (by decide) hcells 1)
        clear hcells hb2
        go_wp2
        go_ret
        exact ⟨p.drop 1, _, _, by rw [List.length_drop, HPL.out]; rfl, by rw [List.length_drop, HPL.out]; decide, I1.out, D1.out⟩
      · by_cases hx2 : x = 1
        · subst hx2
          go_wp2_with fail
          refine (BC.out 64 _ _ _ _ _ _ D1.out).mono ?_
          rintro e w2 ⟨k, rfl, hk, -, hD2, hg2⟩
          have hk1 : k < 64 := by have := hk (by decide); omega
          have D2 := Lib.hid hD2; have O2 := Lib.hid (own_dw O1.out hg2 hgw); have S2 := Lib.hid (Nat.le_trans S1.out hg2.size)
          clear hk hD2 hg2
          have D2a := Lib.hid (D2.out.alloc (.cells #[.int .i64 1000000000, .int .i64 1000000001, .int .i64 (-1000000001)] 3))
          have O2a := Lib.hid (O2.out.alloc (.cells #[.int .i64 1000000000, .int .i64 1000000001, .int .i64 (-1000000001)] 3))
          have hne : w2.heap.size ≠ g := by have := D2.out.lt; omega
          have PX := Lib.hid (PC.out [1000000000, 1000000001, -1000000001] (by simp) (by simp) g A cap zs)
          go_wp2_with fail
          refine (PX.out _ _ w2.heap.size D2a.out (heap_alloc_new w2 _) hne).mono ?_
          rintro e w3 ⟨z, rfl, -, hD3, hg3⟩
          have o3 := own_dw O2a.out hg3 hgw
          obtain ⟨v0, hcell⟩ : ∃ b0 : Int, w3.cell? ⟨b, k, none⟩ = some (.int .i64 b0) := ⟨_, (o3.cellAt k (by omega)).trans (ivs_at p k (by rw [HPL.out]; exact hk1))⟩
          have hz := o3.frozenAt k
          have s1 := o3.stored k (.int .i64 z)
          rw [ivs_set] at s1
          have HP2 : (p.set k z).length = 64 := by rw [List.length_set]; exact HPL.out
          obtain ⟨b2, hb2, -, hbs2, -, -, hcells⟩ := own_where s1.1 HP2 (by decide)
          obtain rfl : b = b2 := by injection hb2 with h; injection h
          have I3 := Lib.hid (ints_drop hbs2 HP2 (by decide) hcells 0)
          have D3 := Lib.hid (hD3.set (Nat.le_trans hs0 hbw) (Nat.lt_of_lt_of_le hgw hbw) k (.int .i64 z))
          have HP3 := Lib.hid HP2
          clear hcells hb2 s1 o3 hD3 hg3 HP2
          go_wp2
          go_ret
          exact ⟨p.set k z, _, _, by rw [HP3.out]; rfl, by rw [HP3.out]; decide, I3.out, D3.out⟩
        · have q0 : ((x : Int) == 0) = false := by rw [beq_eq_false_iff_ne]; omega
          have q1 : ((x : Int) == 1) = false := by rw [beq_eq_false_iff_ne]; omega
          obtain ⟨b2, hb2, -, hbs2, -, -, hcells⟩ := own_where O1.out HPL.out (by decide)
          obtain rfl : b = b2 := by injection hb2 with h; injection h
          have I1 := Lib.hid (ints_drop hbs2 HPL.out (by decide) hcells 0)
          clear hcells hb2
          go_wp2
          go_ret
          exact ⟨p, _, _, by rw [HPL.out]; rfl, by rw [HPL.out]; decide, I1.out, D1.out⟩

set_option maxRecDepth 100000 in
set_option maxHeartbeats 1000000 in
theorem drawinverse4_ex (A : Option Addr) (cap : Nat) (zs : List Int) (w : World) (hW : Code w A zs) :
    Calls Try.prog 27 #[.slice A zs.length cap] w fun e w' => ∃ (l : List Int) (A' : Option Addr) (c : Nat), e = .returned (.slice A' l.length c) ∧ l.length ≤ 16 ∧ Ints w' w'.heap.size A' l ∧ Below w.heap.size w w' := by
  have HN := Lib.hid (new_ex A cap zs w hW)
  have HL := Lib.hid fun w0 w g h => l12square_4 A cap zs w0 w g h
  clear hW
  go_enter Try.func27, Try.ntmps27
  go_wp2_with fail
  refine HN.out.mono ?_
  rintro e w1 ⟨rfl, hD1, hb1⟩
  have B1 := Lib.hid hb1; have D1 := Lib.hid hD1; clear hb1 hD1
  go_wp2_with fail
  refine (HL.out _ _ _ D1.out).mono ?_
  rintro e w2 ⟨l, A2, c2, rfl, hl, hI, hD2⟩
  have B2 := Lib.hid (B1.out.trans (hD2.belowOf (Nat.le_refl _) B1.out.size))
  have I2 := Lib.hid hI
  clear hI hD2
  go_wp2
  go_ret
  exact ⟨l, A2, c2, rfl, hl, I2.out, B2.out⟩

set_option maxRecDepth 100000 in
set_option maxHeartbeats 1000000 in
theorem drawinverse8_ex (A : Option Addr) (cap : Nat) (zs : List Int) (w : World) (hW : Code w A zs) :
    Calls Try.prog 28 #[.slice A zs.length cap] w fun e w' => ∃ (l : List Int) (A' : Option Addr) (c : Nat), e = .returned (.slice A' l.length c) ∧ l.length ≤ 64 ∧ Ints w' w'.heap.size A' l ∧ Below w.heap.size w w' := by
  have HN := Lib.hid (new_ex A cap zs w hW)
  have HL := Lib.hid fun w0 w g h => l12square_8 A cap zs w0 w g h
  clear hW
  go_enter Try.func28, Try.ntmps28
  go_wp2_with fail
  refine HN.out.mono ?_
  rintro e w1 ⟨rfl, hD1, hb1⟩
  have B1 := Lib.hid hb1; have D1 := Lib.hid hD1; clear hb1 hD1
  go_wp2_with fail
  refine (HL.out _ _ _ D1.out).mono ?_
  rintro e w2 ⟨l, A2, c2, rfl, hl, hI, hD2⟩
  have B2 := Lib.hid (B1.out.trans (hD2.belowOf (Nat.le_refl _) B1.out.size))
  have I2 := Lib.hid hI
  clear hI hD2
  go_wp2
  go_ret
  exact ⟨l, A2, c2, rfl, hl, I2.out, B2.out⟩
end Go.Proofs.Ytcmijednpnabmaa
