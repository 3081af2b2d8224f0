/-
  Contracts of chapter 16's draws. Condition: the input is no longer than 1048576 bytes.
-/
import Derived.Test.YtbiffijjmhpkpaaDw
import Derived.Test.YtbiffijjmhpkpaaScanD
import Derived.Test.YtbiffijjmhpkpaaLaG
import Derived.Test.YtbiffijjmhpkpaaOwn
import Derived.Maps.AppendAt
namespace Go.Proofs.Ytbiffijjmhpkpaa
open Go.RowKit
set_option linter.unusedVariables false

theorem own_formM {w : World} {base : Nat} {e : TypeId} {size : Nat} {v : Value} {n : Nat} {xs : List Value} (h : w.ownsRow base e size v n xs) : ∃ A c, v = .slice A n c := by
  rcases h.2 with ⟨h1, h2⟩ | ⟨g, cap, cur, h1, _⟩
  · exact ⟨none, 0, by rw [h1, h2]⟩
  · exact ⟨_, _, h1⟩
theorem own_whereM {w : World} {base : Nat} {A : Option Addr} {n c : Nat} {l : List Int} (h : w.ownsRow base 3 1 (.slice A n c) n (ivs l)) (hl : l.length = n) (hn : 0 < n) : ∃ b, A = some ⟨b, 0, none⟩ ∧ base ≤ b ∧ b < w.heap.size ∧ n ≤ c ∧ c ≤ maxLen ∧ ∀ j, j < n → w.cell? ⟨b, j, none⟩ = some (.int .i64 (l.getD j 0)) := by
  have h0 := h
  rcases h.2 with ⟨h1, h2⟩ | ⟨g, cap, cur, h1, hb, hg, hnc, hcm, hcs, htake⟩
  · omega
  · simp only [Value.slice.injEq] at h1
    obtain ⟨rfl, _, rfl⟩ := h1
    exact ⟨g, rfl, hb, (Array.getElem?_eq_some_iff.1 hg).1, hnc, hcm, fun j hj => (World.ownsRow.cellAt h0 j (by omega)).trans (ivs_at l j (by omega))⟩
theorem ints_dropM {w : World} {b n : Nat} {l : List Int} (hb : b < w.heap.size) (hl : l.length = n) (hn : n ≤ 1000) (hc : ∀ j, j < n → w.cell? ⟨b, j, none⟩ = some (.int .i64 (l.getD j 0))) (k : Nat) : Ints w w.heap.size (some ⟨b, k, none⟩) (l.drop k) := by
  refine ⟨by rw [List.length_drop]; omega, .inr ⟨b, k, rfl, hb, fun j hj => ?_⟩⟩
  rw [List.length_drop] at hj
  rw [hc (k + j) (by omega)]
  simp only [List.getD_eq_getElem?_getD, List.getElem?_drop]

set_option maxRecDepth 100000 in
set_option maxHeartbeats 4000000 in
theorem l16four_ex (m : Nat) (hm : m ≤ 100000) (A : Option Addr) (cap : Nat) (zs : List Int) (w0 w : World) (g : Nat) (h : Dw g A cap zs w0 w) :
    Calls Try.prog 28 #[.pointer (some ⟨g, 0, none⟩), .int .i64 m] w fun e w' => ∃ (l : List Int) (A' : Option Addr) (c : Nat), e = .returned (.slice A' l.length c) ∧ l.length ≤ 4 ∧ Ints w' w'.heap.size A' l ∧ Dw g A cap zs w0 w' := by
  obtain ⟨i0, hii, hz0, hz1, hz2⟩ := info_parts Try.iinfo
  have hgw : g < w.heap.size := h.lt
  have hs0 : w0.heap.size ≤ w.heap.size := h.size
  have BC := Lib.hid below_ex
  have PC := Lib.hid pick_ex
  have O0 := Lib.hid (own_ints w w.heap.size [] (Nat.le_refl _) (by simp))
  have D0 := Lib.hid (h.alloc (.cells (ivs []).toArray 3))
  clear h
  go_enter Try.func28, Try.ntmps28
  go_wp2
  go_loopw [5, 6] (fun v i wr => ∃ (j : Nat) (p : List Int), j ≤ 4 ∧ i = .int .i64 j ∧ p.length = j ∧ wr.ownsRow w.heap.size 3 1 v j (ivs p) ∧ w.heap.size ≤ wr.heap.size ∧ Dw g A cap zs w0 wr)
    (fun _ i _ => 4 - (intOf i).toNat)
  case atStart => exact ⟨0, [], Nat.zero_le _, rfl, rfl, O0.out, by simp, D0.out⟩
  case round =>
    obtain ⟨j, p, hj, rfl, hpl, hown, hsz, hD⟩ := hrel
    obtain ⟨Av, cv, rfl⟩ := own_formM hown
    have HPL := Lib.hid hpl; have HD := Lib.hid hD; have HO := Lib.hid hown; have HS := Lib.hid hsz
    clear hpl hown hsz hD
    by_cases hlt : j < 4
    · have d1 : decide ((j : Int) < 4) = true := by simp; omega
      go_wp2_with fail
      refine (BC.out _ _ _ _ _ _ _ HD.out).mono ?_
      rintro e w1 ⟨x, rfl, hx, -, hD1, hg1⟩
      have hx1 := hx (by omega)
      have D1 := Lib.hid hD1; have O1 := Lib.hid (own_dw HO.out hg1 hgw); have S1 := Lib.hid (Nat.le_trans HS.out hg1.size)
      clear hx hD1 hg1
      go_wp2_with fail
      refine (BC.out 256 _ _ _ _ _ _ D1.out).mono ?_
      rintro e w2 ⟨y, rfl, hy, -, hD2, hg2⟩
      have hy1 := hy (by decide)
      have D2 := Lib.hid hD2; have O2 := Lib.hid (own_dw O1.out hg2 hgw); have S2 := Lib.hid (Nat.le_trans S1.out hg2.size)
      clear hy hD2 hg2
      have D2a := Lib.hid (D2.out.alloc (.cells #[.int .i64 0, .int .i64 (m : Int), .int .i64 (x : Int), .int .i64 (y : Int)] 3))
      have O2a := Lib.hid (O2.out.alloc (.cells #[.int .i64 0, .int .i64 (m : Int), .int .i64 (x : Int), .int .i64 (y : Int)] 3))
      have hne : w2.heap.size ≠ g := by have := D2.out.lt; omega
      have PX := Lib.hid (PC.out [0, (m : Int), (x : Int), (y : Int)] (by simp) (by simp) g A cap zs)
      go_wp2_with fail
      refine (PX.out _ _ w2.heap.size D2a.out (heap_alloc_new w2 _) hne).mono ?_
      rintro e w3 ⟨z, rfl, -, hD3, hg3⟩
      have O3 := own_dw O2a.out hg3 hgw
      have D3 := Lib.hid hD3; have S3 : w.heap.size ≤ w3.heap.size := Nat.le_trans S2.out (Nat.le_trans (by simp) hg3.size)
      clear hD3 hg3
      go_wp2_with (at_builtin; refine append_int w3 rfl (.tmp 12) (.tmp 23) 24 rfl w.heap.size 3 i0 Try.underlying24 hii hz0 hz1 hz2 _ _ _ rfl O3 _ rfl rfl (by omega) S3 ?_; intro v' w' hown' hgr hvb)
      have hgr : World.grownBy w3 w' (Value.slice Av j cv).ownBlock := hgr
      have D4 := Lib.hid (D3.out.grown hgr fun k hk => by have := (O3.lt k hk).1; omega)
      have O4 := Lib.hid hown'
      have S4 := Lib.hid (Nat.le_trans S3 hgr.size)
      obtain ⟨Av2, cv2, hv2⟩ := own_formM hown'
      clear hvb hown' hgr O3 S3
      subst hv2
      go_wp2
      go_roundw
      case rel => exact ⟨j + 1, p ++ [z], by omega, by go_num, by rw [List.length_append, HPL.out]; rfl, O4.out, S4.out, D4.out⟩
      case measure => simp [intOf]; omega
    · obtain rfl : j = 4 := by omega
      obtain ⟨b, rfl, hbw, hbs, hnc, hcm, hcells⟩ := own_whereM HO.out HPL.out (by decide)
      go_wp2_with fail
      refine (BC.out 14 _ _ _ _ _ _ HD.out).mono ?_
      rintro e w1 ⟨x, rfl, hx, -, hD1, hg1⟩
      have hx1 := hx (by decide)
      have D1 := Lib.hid hD1; have O1 := Lib.hid (own_dw HO.out hg1 hgw); have S1 := Lib.hid (Nat.le_trans HS.out hg1.size)
      clear hx hD1 hg1 hcells
      unfold maxLen at hcm
      by_cases hx0 : x = 0
      · subst hx0
        go_wp2_with fail
        refine (BC.out 4 _ _ _ _ _ _ D1.out).mono ?_
        rintro e w2 ⟨k, rfl, hk, -, hD2, hg2⟩
        have hk1 : k < 4 := by have := hk (by decide); omega
        have D2 := Lib.hid hD2; have O2 := Lib.hid (own_dw O1.out hg2 hgw); have S2 := Lib.hid (Nat.le_trans S1.out hg2.size)
        clear hk hD2 hg2
        have D2a := Lib.hid (D2.out.alloc (.cells #[.int .i64 (-1), .int .i64 ((m : Int) + 1)] 3))
        have O2a := Lib.hid (O2.out.alloc (.cells #[.int .i64 (-1), .int .i64 ((m : Int) + 1)] 3))
        have hne : w2.heap.size ≠ g := by have := D2.out.lt; omega
        have PX := Lib.hid (PC.out [-1, (m : Int) + 1] (by simp) (by simp) g A cap zs)
        go_wp2_with fail
        refine (PX.out _ _ w2.heap.size D2a.out (heap_alloc_new w2 _) hne).mono ?_
        rintro e w3 ⟨z, rfl, -, hD3, hg3⟩
        have o3 := own_dw O2a.out hg3 hgw
        obtain ⟨v0, hcell⟩ : ∃ b0 : Int, w3.cell? ⟨b, k, none⟩ = some (.int .i64 b0) := ⟨_, (o3.cellAt k (by omega)).trans (ivs_at p k (by rw [HPL.out]; exact hk1))⟩
        have hz := o3.frozenAt k
        have s1 := o3.stored k (.int .i64 z)
        rw [ivs_set] at s1
        have HP2 : (p.set k z).length = 4 := by rw [List.length_set]; exact HPL.out
        obtain ⟨b2, hb2, -, hbs2, -, -, hcells⟩ := own_whereM s1.1 HP2 (by decide)
        obtain rfl : b = b2 := by injection hb2 with h; injection h
        have I3 := Lib.hid (ints_dropM hbs2 HP2 (by decide) hcells 0)
        have D3 := Lib.hid (hD3.set (Nat.le_trans hs0 hbw) (Nat.lt_of_lt_of_le hgw hbw) k (.int .i64 z))
        have HP3 := Lib.hid HP2
        clear hcells hb2 s1 o3 hD3 hg3 HP2
        go_wp2
        go_ret
        exact ⟨p.set k z, _, _, by rw [HP3.out]; rfl, by rw [HP3.out]; decide, I3.out, D3.out⟩
      · by_cases hx2 : x = 1
        · subst hx2
          obtain ⟨b2, hb2, -, hbs2, -, -, hcells⟩ := own_whereM O1.out HPL.out (by decide)
          obtain rfl : b = b2 := by injection hb2 with h; injection h
          have I1 := Lib.hid (ints_dropM hbs2 HPL.out (by decide) hcells 1)
          clear hcells hb2
          go_wp2
          go_ret
          exact ⟨p.drop 1, _, _, by rw [List.length_drop, HPL.out]; rfl, by rw [List.length_drop, HPL.out]; decide, I1.out, D1.out⟩
        · have q0 : ((x : Int) == 0) = false := by rw [beq_eq_false_iff_ne]; omega
          have q1 : ((x : Int) == 1) = false := by rw [beq_eq_false_iff_ne]; omega
          obtain ⟨b2, hb2, -, hbs2, -, -, hcells⟩ := own_whereM O1.out HPL.out (by decide)
          obtain rfl : b = b2 := by injection hb2 with h; injection h
          have I1 := Lib.hid (ints_dropM hbs2 HPL.out (by decide) hcells 0)
          clear hcells hb2
          go_wp2
          go_ret
          exact ⟨p, _, _, by rw [HPL.out]; rfl, by rw [HPL.out]; decide, I1.out, D1.out⟩
set_option maxRecDepth 100000 in
set_option maxHeartbeats 1000000 in
theorem drawpack4_ex (A : Option Addr) (cap : Nat) (zs : List Int) (w : World) (hW : Code w A zs) :
    Calls Try.prog 10 #[.slice A zs.length cap] w fun e w' => ∃ (l : List Int) (A' : Option Addr) (c : Nat), e = .returned (.slice A' l.length c) ∧ l.length ≤ 4 ∧ Ints w' w'.heap.size A' l ∧ Below w.heap.size w w' := by
  have HN := Lib.hid (new_ex A cap zs w hW)
  have HL := Lib.hid fun w0 w g h => l16four_ex 32767 (by decide) A cap zs w0 w g h
  clear hW
  go_enter Try.func10, Try.ntmps10
  go_wp2_with fail
  refine HN.out.mono ?_
  rintro e w1 ⟨rfl, hD1, hb1⟩
  have B1 := Lib.hid hb1; have D1 := Lib.hid hD1; clear hb1 hD1
  go_wp2_with fail
  refine (HL.out _ _ _ D1.out).mono ?_
  rintro e w2 ⟨l, A2, c2, rfl, hl, hI, hD2⟩
  have B2 := Lib.hid (B1.out.trans (hD2.belowOf (Nat.le_refl _) B1.out.size))
  have I2 := Lib.hid hI
  clear hI hD2
  go_wp2
  go_ret
  exact ⟨l, A2, c2, rfl, hl, I2.out, B2.out⟩
set_option maxRecDepth 100000 in
set_option maxHeartbeats 1000000 in
theorem l16num_ex (m : Nat) (hm : m ≤ 100000) (A : Option Addr) (cap : Nat) (zs : List Int) (w0 w : World) (g : Nat) (h : Dw g A cap zs w0 w) :
    Calls Try.prog 33 #[.pointer (some ⟨g, 0, none⟩), .int .i64 m] w fun e w' => ∃ n : Int, e = .returned (.int .i64 n) ∧ (-9223372036854775808 ≤ n ∧ n ≤ 9223372036854775807) ∧ Dw g A cap zs w0 w' := by
  have FC := Lib.hid fun w0 w g h => l16four_ex m hm A cap zs w0 w g h
  have OC := Lib.hid once_ex
  have PC := Lib.hid pick_ex
  have HP := Lib.hid @spec_pack_any
  have RG := Lib.hid fun l => pack_range (l := l)
  have HD := Lib.hid h
  clear h
  go_enter Try.func33, Try.ntmps33
  go_wp2_with fail
  refine (FC.out _ _ _ HD.out).mono ?_
  rintro e w1 ⟨l, A1, c1, rfl, hl, hI, hD1⟩
  have PX := Lib.hid (HP.out A1 c1 l w1 hI)
  obtain ⟨n0, hn0⟩ : ∃ n0, n0 = paqV l := ⟨_, rfl⟩
  obtain ⟨e0, he0⟩ : ∃ n0, n0 = paqE l := ⟨_, rfl⟩
  have hrg := RG.out l
  rw [← hn0] at PX hrg
  rw [← he0] at PX
  obtain ⟨nl, hnl⟩ : ∃ nl, nl = l.length := ⟨_, rfl⟩
  rw [← hnl] at PX ⊢
  have D1 := Lib.hid hD1
  clear hI hD1 hn0 he0 hnl hl
  go_wp2_with fail
  refine PX.out.mono ?_
  rintro e w2 ⟨rfl, hw⟩
  subst hw
  go_wp2_with fail
  refine (OC.out 8 _ _ _ _ _ _ D1.out).mono ?_
  rintro e w3 ⟨x, rfl, hD3, hg3⟩
  have D3 := Lib.hid hD3
  clear hD3 hg3
  cases x with
  | true =>
    have D3a := Lib.hid (D3.out.alloc (.cells #[.int .i64 (-1), .int .i64 32768, .int .i64 65535, .int .i64 2147483648, .int .i64 9223372036854775807] 3))
    have hne : w3.heap.size ≠ g := by have := D3.out.lt; omega
    have PY := Lib.hid (PC.out [-1, 32768, 65535, 2147483648, 9223372036854775807] (by simp) (by simp) g A cap zs)
    go_wp2_with fail
    refine (PY.out _ _ w3.heap.size D3a.out (heap_alloc_new w3 _) hne).mono ?_
    rintro e w4 ⟨z, rfl, hz, hD4, hg4⟩
    have D4 := Lib.hid hD4
    have hzr : -9223372036854775808 ≤ z ∧ z ≤ 9223372036854775807 := by
      simp only [List.mem_cons, List.mem_nil_iff, or_false] at hz
      omega
    have HZ := Lib.hid hzr
    clear hz hzr hD4 hg4
    go_wp2
    go_ret
    exact ⟨z, rfl, HZ.out, D4.out⟩
  | false =>
    have HR := Lib.hid hrg
    clear hrg
    go_wp2
    go_ret
    exact ⟨n0, rfl, ⟨by have := HR.out.1; omega, HR.out.2⟩, D3.out⟩
set_option maxRecDepth 100000 in
set_option maxHeartbeats 1000000 in
theorem drawaddlanes_ex (A : Option Addr) (cap : Nat) (zs : List Int) (w : World) (hW : Code w A zs) :
    Calls Try.prog 15 #[.slice A zs.length cap] w fun e w' => ∃ a b : Int, e = .returned (.tuple #[.int .i64 a, .int .i64 b]) ∧ (-9223372036854775808 ≤ a ∧ a ≤ 9223372036854775807) ∧ (-9223372036854775808 ≤ b ∧ b ≤ 9223372036854775807) ∧ Below w.heap.size w w' := by
  have HN := Lib.hid (new_ex A cap zs w hW)
  have HL := Lib.hid fun w0 w g h => l16num_ex 20000 (by decide) A cap zs w0 w g h
  clear hW
  go_enter Try.func15, Try.ntmps15
  go_wp2_with fail
  refine HN.out.mono ?_
  rintro e w1 ⟨rfl, hD1, hb1⟩
  have B1 := Lib.hid hb1; have D1 := Lib.hid hD1; clear hb1 hD1
  go_wp2_with fail
  refine (HL.out _ _ _ D1.out).mono ?_
  rintro e w2 ⟨a, rfl, ha, hD2⟩
  have D2 := Lib.hid hD2; have HA := Lib.hid ha
  clear hD2 ha
  go_wp2_with fail
  refine (HL.out _ _ _ D2.out).mono ?_
  rintro e w3 ⟨b, rfl, hb, hD3⟩
  have B3 := Lib.hid (B1.out.trans (hD3.belowOf (Nat.le_refl _) B1.out.size)); have HB := Lib.hid hb
  clear hD3 hb
  go_wp2
  go_ret2
  exact ⟨a, b, rfl, HA.out, HB.out, B3.out⟩
set_option maxRecDepth 100000 in
set_option maxHeartbeats 1000000 in
theorem drawcliplanes_ex (A : Option Addr) (cap : Nat) (zs : List Int) (w : World) (hW : Code w A zs) :
    Calls Try.prog 18 #[.slice A zs.length cap] w fun e w' => ∃ n : Int, e = .returned (.int .i64 n) ∧ (-9223372036854775808 ≤ n ∧ n ≤ 9223372036854775807) ∧ Below w.heap.size w w' := by
  have HN := Lib.hid (new_ex A cap zs w hW)
  have HL := Lib.hid fun w0 w g h => l16num_ex 2400 (by decide) A cap zs w0 w g h
  clear hW
  go_enter Try.func18, Try.ntmps18
  go_wp2_with fail
  refine HN.out.mono ?_
  rintro e w1 ⟨rfl, hD1, hb1⟩
  have B1 := Lib.hid hb1; have D1 := Lib.hid hD1; clear hb1 hD1
  go_wp2_with fail
  refine (HL.out _ _ _ D1.out).mono ?_
  rintro e w2 ⟨n, rfl, hn, hD2⟩
  have B2 := Lib.hid (B1.out.trans (hD2.belowOf (Nat.le_refl _) B1.out.size)); have HN2 := Lib.hid hn
  clear hn hD2
  go_wp2
  go_ret
  exact ⟨n, rfl, HN2.out, B2.out⟩
end Go.Proofs.Ytbiffijjmhpkpaa
