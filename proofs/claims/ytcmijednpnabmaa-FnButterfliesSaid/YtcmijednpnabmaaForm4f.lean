/-
  The contract of the model's l12Mul at squares of 4, false. Conditions: the list is a square of that side, and no number is greater than 1000000000.
-/
import Derived.Test.YtcmijednpnabmaaFormK
namespace Go.Proofs.Ytcmijednpnabmaa
open Go.RowKit
set_option linter.unusedVariables false

set_option maxRecDepth 100000 in
set_option maxHeartbeats 8000000 in
theorem l12mul_4_false (A : Option Addr) (ca : Nat) (l : List Int) (hl : l.length = 16) (hel : ∀ i, i < 16 → -1000000000 ≤ l.getD i 0 ∧ l.getD i 0 ≤ 1000000000) (w : World) (hA : Ints w w.heap.size A l) :
    Calls Try.prog 63 #[.slice A 16 ca, .int .i64 4, .bool false] w fun e w' => ∃ A' c, e = .returned (.slice A' 16 c) ∧ OwnI w' w.heap.size A' c (mulF 4 (matE 4 false) l) ∧ Below w.heap.size w w' := by
  obtain ⟨lb, loff, rfl, hlb, hlc⟩ := hA.at 0 (by omega)
  have HL := Lib.hid hlc
  have RW := Lib.hid l12row_4
  have HMK := Lib.hid (make_ints 16 (16 : Int) rfl (by omega))
  have T1 := Lib.hid (fun a b c (ha : a < 4) (hb : b < 4) (hc : c < 4) => term_first false (n := 4) (l := l) (by decide) hel a b c ha hb hc)
  have S1 := Lib.hid (fun a b c (ha : a < 4) (hb : b < 4) (hc : c ≤ 4) => sum_first false (n := 4) (l := l) (by decide) hel a b c ha hb hc)
  have T2 := Lib.hid (fun a b c (ha : a < 4) (hb : b < 4) (hc : c < 4) => term_second false (n := 4) (l := l) (by decide) hel a b c ha hb hc)
  have S2 := Lib.hid (fun a b c (ha : a < 4) (hb : b < 4) (hc : c ≤ 4) => sum_second false (n := 4) (l := l) (by decide) hel a b c ha hb hc)
  have HLL := Lib.hid hl
  have hmk := HMK.out
  have O0 := Lib.hid (zeros_at 16 (by decide) w w.heap.size rfl)
  have B0 := Lib.hid (below_new w (.cells (ivs (List.replicate 16 0)).toArray 3))
  clear hA hlc hel hl
  go_enter Try.func63, Try.ntmps63
  go_wp2
  clear hmk
  go_loopw [8, 9, 10] (fun x8 x9 x10 wr => ∃ (r : Nat) (p : List Int), r ≤ 4 ∧ x8 = .int .i64 r ∧ FillAt 4 false p r 0 ∧ wr.ownsRow w.heap.size 3 1 (.slice (some ⟨w.heap.size, 0, none⟩) 16 16) 16 (ivs p) ∧ Below w.heap.size w wr)
    (fun x8 _ _ _ => 4 - (intOf x8).toNat)
  case atStart => exact ⟨0, List.replicate 16 0, Nat.zero_le _, rfl, fill_start _ _, O0.out, B0.out⟩
  case round =>
    obtain ⟨r, p, hrN, rfl, hp, hown, hbel⟩ := hrel
    have HP := Lib.hid hp
    by_cases hlt : r < 4
    · have d1 : decide ((r : Int) < 4) = true := by simp; omega
      have RX := Lib.hid (RW.out r hlt wr)
      have hsz0 := (own_blk hown).2
      have HO := Lib.hid hown; have HB := Lib.hid hbel; have HZ := Lib.hid hsz0
      clear hp hown hbel hsz0
      go_wp2_with fail
      refine RX.out.mono ?_
      rintro e w1 ⟨A1, c1, rfl, ho1, hb1⟩
      have HV := Lib.hid (ho1.ints (by rw [rowL_len]; omega))
      have HF := Lib.hid (ho1.not_lo HZ.out)
      have HO1 := Lib.hid (own_keep HO.out hb1)
      have HB1 := Lib.hid (below_up HB.out hb1 HB.out.size)
      clear ho1 hb1 HO HB HZ RX
      go_wp2
      go_loopw [10] (fun x10 wr => ∃ (k : Nat) (q : List Int), k ≤ 4 ∧ x10 = .int .i64 k ∧ FillAt 4 false q r k ∧ wr.ownsRow w.heap.size 3 1 (.slice (some ⟨w.heap.size, 0, none⟩) 16 16) 16 (ivs q) ∧ Ints wr w1.heap.size A1 (rowL 4 r) ∧ w1.heap.size ≤ wr.heap.size ∧ Below w.heap.size w wr)
        (fun x10 _ => 4 - (intOf x10).toNat)
      case atStart => exact ⟨0, p, Nat.zero_le _, rfl, HP.out, HO1.out, HV.out, Nat.le_refl _, HB1.out⟩
      case round =>
        obtain ⟨k, q, hkN, rfl, hq, hown, hview, hsz, hbel⟩ := hrel
        have HQ := Lib.hid hq
        by_cases hlk : k < 4
        · have d2 : decide ((k : Int) < 4) = true := by simp; omega
          obtain ⟨b, off, hAe, hb, hc⟩ := hview.at k (by rw [rowL_len]; exact hlk)
          have cr := hc k (by rw [rowL_len]; exact hlk)
          rw [rowL_at hlk] at cr
          have hst := fill_forth HQ.out hlt hlk
          obtain ⟨x, hx⟩ : ∃ x, x = matE 4 false r k := ⟨_, rfl⟩
          rw [← hx] at cr hst
          have HST := Lib.hid hst
          obtain ⟨b0, hcell⟩ : ∃ b0 : Int, wr.cell? ⟨w.heap.size, r * 4 + k, none⟩ = some (.int .i64 b0) := ⟨_, own_cells hown HQ.out.1 (r * 4 + k) (by omega)⟩
          have hfz := hown.frozenAt (r * 4 + k)
          have s1 := hown.stored (r * 4 + k) (.int .i64 x)
          rw [ivs_set] at s1
          have N1 := Lib.hid s1.1
          have N2 := Lib.hid (ints_away hview HF.out s1.2 hsz)
          have N3 := Lib.hid (hbel.setCell (p := ⟨w.heap.size, r * 4 + k, none⟩) (Nat.le_refl _) (.int .i64 x))
          have N4 := Lib.hid (Nat.le_trans hsz s1.2.size)
          have HAE := Lib.hid hAe
          have hA1 := hAe
          subst hA1
          clear hx hc s1 hown hbel hview hsz hst hq hAe
          go_wp2
          go_roundw
          case rel => exact ⟨k + 1, q.set (r * 4 + k) x, by omega, by go_num, HST.out, N1.out, N2.out, N4.out, N3.out⟩
          case measure => simp [intOf]; omega
        · obtain rfl : k = 4 := by omega
          have N1 := Lib.hid hown; have N3 := Lib.hid hbel
          clear hq hown hview hsz hbel
          go_wp2
          go_roundw
          case rel => exact ⟨r + 1, q, by omega, by go_num, fill_row HQ.out, N1.out, N3.out⟩
          case measure => simp [intOf]; omega
    · obtain rfl : r = 4 := by omega
      have hp2 := fill_end (by decide) hp
      subst hp2
      obtain ⟨w1, hw1⟩ : ∃ w1, w1 = wr := ⟨_, rfl⟩
      subst hw1
      have hg1 := (own_blk hown).2
      have HM1 := Lib.hid (fun a c (ha : a < 4) (hc : c < 4) => (own_cells hown (matL_len 4 false) (a * 4 + c) (by omega)).trans (by rw [matL, lsq_at ha hc]))
      have HL1 := Lib.hid (fun i (hi : i < 16) => (hbel.cell (p := ⟨lb, loff + i, none⟩) hlb).trans (HL.out i (by rw [HLL.out]; exact hi)))
      have B1 := Lib.hid hbel
      have Z1 := Lib.hid (own_keep (zeros_at 16 (by decide) w1 w1.heap.size rfl) (below_new _ (.cells (ivs (List.replicate 16 0)).toArray 3)))
      have Z2 := Lib.hid (zeros_at 16 (by decide) (w1.alloc (.cells (ivs (List.replicate 16 0)).toArray 3)) (w1.heap.size + 1) (size_alloc _ _))
      have Z3 := Lib.hid (((Below.refl w1.heap.size w1).alloc (Nat.le_refl _) (.cells (ivs (List.replicate 16 0)).toArray 3)).alloc (by rw [size_alloc]; omega) (.cells (ivs (List.replicate 16 0)).toArray 3))
      have hmk := HMK.out
      have hlb1 : lb < w1.heap.size := by omega
      clear hp HP hown hbel
      go_wp2
      clear hmk
      go_loopw [13, 14, 15] (fun x13 x14 x15 wr => ∃ (a : Nat) (p : List Int), a ≤ 4 ∧ x13 = .int .i64 a ∧ Acc 4 (mulT 4 (matE 4 false) l) p a 0 0 ∧ wr.ownsRow w1.heap.size 3 1 (.slice (some ⟨w1.heap.size, 0, none⟩) 16 16) 16 (ivs p) ∧ wr.ownsRow (w1.heap.size + 1) 3 1 (.slice (some ⟨w1.heap.size + 1, 0, none⟩) 16 16) 16 (ivs (List.replicate 16 0)) ∧ Below w1.heap.size w1 wr)
        (fun x13 _ _ _ => 4 - (intOf x13).toNat)
      case atStart => exact ⟨0, List.replicate 16 0, Nat.zero_le _, rfl, acc_start _ _, Z1.out, Z2.out, Z3.out⟩
      case round =>
        obtain ⟨a, p, haN, rfl, hp, hown, hout, hbel⟩ := hrel
        have HP := Lib.hid hp; have HO := Lib.hid hown; have HU := Lib.hid hout; have HB := Lib.hid hbel
        clear hp hown hout hbel
        by_cases hla : a < 4
        · have d1 : decide ((a : Int) < 4) = true := by simp; omega
          go_wp2
          go_loopw [14, 15] (fun x14 x15 wr => ∃ (b : Nat) (p : List Int), b ≤ 4 ∧ x14 = .int .i64 b ∧ Acc 4 (mulT 4 (matE 4 false) l) p a b 0 ∧ wr.ownsRow w1.heap.size 3 1 (.slice (some ⟨w1.heap.size, 0, none⟩) 16 16) 16 (ivs p) ∧ wr.ownsRow (w1.heap.size + 1) 3 1 (.slice (some ⟨w1.heap.size + 1, 0, none⟩) 16 16) 16 (ivs (List.replicate 16 0)) ∧ Below w1.heap.size w1 wr)
            (fun x14 _ _ => 4 - (intOf x14).toNat)
          case atStart => exact ⟨0, p, Nat.zero_le _, rfl, HP.out, HO.out, HU.out, HB.out⟩
          case round =>
            obtain ⟨b, p2, hbN, rfl, hp2, hown, hout, hbel⟩ := hrel
            have HP2 := Lib.hid hp2; have HO2 := Lib.hid hown; have HU2 := Lib.hid hout; have HB2 := Lib.hid hbel
            clear hp2 hown hout hbel
            by_cases hlb2 : b < 4
            · have d2 : decide ((b : Int) < 4) = true := by simp; omega
              go_wp2
              go_loopw [15] (fun x15 wr => ∃ (c : Nat) (p : List Int), c ≤ 4 ∧ x15 = .int .i64 c ∧ Acc 4 (mulT 4 (matE 4 false) l) p a b c ∧ wr.ownsRow w1.heap.size 3 1 (.slice (some ⟨w1.heap.size, 0, none⟩) 16 16) 16 (ivs p) ∧ wr.ownsRow (w1.heap.size + 1) 3 1 (.slice (some ⟨w1.heap.size + 1, 0, none⟩) 16 16) 16 (ivs (List.replicate 16 0)) ∧ Below w1.heap.size w1 wr)
                (fun x15 _ => 4 - (intOf x15).toNat)
              case atStart => exact ⟨0, p2, Nat.zero_le _, rfl, HP2.out, HO2.out, HU2.out, HB2.out⟩
              case round =>
                obtain ⟨c, q, hcN, rfl, hq, hown, hout, hbel⟩ := hrel
                have HQ := Lib.hid hq
                by_cases hlc : c < 4
                · have d3 : decide ((c : Int) < 4) = true := by simp; omega
                  have hst := acc_step hq hla hlb2
                  have hat := acc_at hq hla hlb2
                  have hsm := S1.out a b c hla hlb2 hcN
                  have htm := T1.out a b c hla hlb2 hlc
                  have cm := HM1.out a c hla hlc
                  rw [← hbel.cell (p := ⟨w.heap.size, a * 4 + c, none⟩) hg1] at cm
                  have cl := HL1.out (c * 4 + b) (by omega)
                  rw [← hbel.cell (p := ⟨lb, loff + (c * 4 + b), none⟩) hlb1] at cl
                  have hfe : mulT 4 (matE 4 false) l a b c = matE 4 false a c * l.getD (c * 4 + b) 0 := rfl
                  have ct := own_cells hown hq.1 (a * 4 + b) (by omega)
                  rw [hat] at ct
                  obtain ⟨s, hs⟩ : ∃ s, s = sumTo (mulT 4 (matE 4 false) l a b) c := ⟨_, rfl⟩
                  obtain ⟨u, hu⟩ : ∃ u, u = matE 4 false a c := ⟨_, rfl⟩
                  obtain ⟨v, hv⟩ : ∃ v, v = l.getD (c * 4 + b) 0 := ⟨_, rfl⟩
                  rw [← hu, ← hv] at hfe
                  rw [← hu] at cm
                  rw [← hv] at cl
                  rw [← hs] at hst hsm ct
                  rw [hfe] at hst htm
                  have hp1 : IntKind.i64.wrap (u * v) = u * v := IntWalk.i64_in _ (by omega)
                  have hp2 : IntKind.i64.wrap (s + u * v) = s + u * v := IntWalk.i64_in _ (by omega)
                  have hfz := hown.frozenAt (a * 4 + b)
                  have s1 := hown.drew.stored (a * 4 + b) (.int .i64 (s + u * v))
                  rw [ivs_set] at s1
                  have N1 := Lib.hid s1.1
                  have N2 := Lib.hid (own_other hout.drew s1.2 (Nat.lt_succ_self _))
                  have N3 := Lib.hid (hbel.drew.setCell (p := ⟨w1.heap.size, a * 4 + b, none⟩) (Nat.le_refl _) (.int .i64 (s + u * v)))
                  have HST := Lib.hid hst
                  clear hq hs hu hv s1 hown hout hbel hst hat hsm hfe htm
                  go_wp2
                  go_region
                  go_wp2
                  go_roundw
                  case rel => exact ⟨c + 1, q.set (a * 4 + b) (s + u * v), by omega, by go_num, HST.out, N1.out, N2.out, N3.out⟩
                  case measure => simp [intOf]; omega
                · obtain rfl : c = 4 := by omega
                  have N1 := Lib.hid hown; have N2 := Lib.hid hout; have N3 := Lib.hid hbel
                  clear hq hown hout hbel
                  go_wp2
                  go_roundw
                  case rel => exact ⟨b + 1, q, by omega, by go_num, acc_col HQ.out, N1.out, N2.out, N3.out⟩
                  case measure => simp [intOf]; omega
            · obtain rfl : b = 4 := by omega
              go_wp2
              go_roundw
              case rel => exact ⟨a + 1, p2, by omega, by go_num, acc_row HP2.out, HO2.out, HU2.out, HB2.out⟩
              case measure => simp [intOf]; omega
        · obtain rfl : a = 4 := by omega
          have hpe := acc_end HP.out
          subst hpe
          obtain ⟨w2, hw2⟩ : ∃ w2, w2 = wr := ⟨_, rfl⟩
          subst hw2
          have HT2 := Lib.hid (fun y k (hy : y < 4) (hk : k < 4) => (own_cells HO.out (sqF_len 4 _) (y * 4 + k) (by omega)).trans (by rw [sqF_at hy hk]))
          have HM2 := Lib.hid (fun x k (hx : x < 4) (hk : k < 4) => (HB.out.cell (p := ⟨w.heap.size, x * 4 + k, none⟩) hg1).trans (HM1.out x k hx hk))
          have hg2 := (own_blk HU.out).2
          have hg12 : w.heap.size < w1.heap.size + 1 := by omega
          clear HP HL1 HM1 T1 S1
          go_wp2
          go_loopw [16, 17, 18] (fun x16 x17 x18 wr => ∃ (a : Nat) (p : List Int), a ≤ 4 ∧ x16 = .int .i64 a ∧ Acc 4 (mulO 4 (matE 4 false) l) p a 0 0 ∧ wr.ownsRow (w1.heap.size + 1) 3 1 (.slice (some ⟨w1.heap.size + 1, 0, none⟩) 16 16) 16 (ivs p) ∧ Below (w1.heap.size + 1) w2 wr)
            (fun x16 _ _ _ => 4 - (intOf x16).toNat)
          case atStart => exact ⟨0, List.replicate 16 0, Nat.zero_le _, rfl, acc_start _ _, HU.out, Below.refl _ _⟩
          case round =>
            obtain ⟨a, p, haN, rfl, hp, hown, hbel⟩ := hrel
            have HP3 := Lib.hid hp; have HO3 := Lib.hid hown; have HB3 := Lib.hid hbel
            clear hp hown hbel
            by_cases hla : a < 4
            · have d1 : decide ((a : Int) < 4) = true := by simp; omega
              go_wp2
              go_loopw [17, 18] (fun x17 x18 wr => ∃ (b : Nat) (p : List Int), b ≤ 4 ∧ x17 = .int .i64 b ∧ Acc 4 (mulO 4 (matE 4 false) l) p a b 0 ∧ wr.ownsRow (w1.heap.size + 1) 3 1 (.slice (some ⟨w1.heap.size + 1, 0, none⟩) 16 16) 16 (ivs p) ∧ Below (w1.heap.size + 1) w2 wr)
                (fun x17 _ _ => 4 - (intOf x17).toNat)
              case atStart => exact ⟨0, p, Nat.zero_le _, rfl, HP3.out, HO3.out, HB3.out⟩
              case round =>
                obtain ⟨b, p2, hbN, rfl, hp2, hown, hbel⟩ := hrel
                have HP4 := Lib.hid hp2; have HO4 := Lib.hid hown; have HB4 := Lib.hid hbel
                clear hp2 hown hbel
                by_cases hlb2 : b < 4
                · have d2 : decide ((b : Int) < 4) = true := by simp; omega
                  go_wp2
                  go_loopw [18] (fun x18 wr => ∃ (c : Nat) (p : List Int), c ≤ 4 ∧ x18 = .int .i64 c ∧ Acc 4 (mulO 4 (matE 4 false) l) p a b c ∧ wr.ownsRow (w1.heap.size + 1) 3 1 (.slice (some ⟨w1.heap.size + 1, 0, none⟩) 16 16) 16 (ivs p) ∧ Below (w1.heap.size + 1) w2 wr)
                    (fun x18 _ => 4 - (intOf x18).toNat)
                  case atStart => exact ⟨0, p2, Nat.zero_le _, rfl, HP4.out, HO4.out, HB4.out⟩
                  case round =>
                    obtain ⟨c, q, hcN, rfl, hq, hown, hbel⟩ := hrel
                    have HQ := Lib.hid hq
                    by_cases hlc : c < 4
                    · have d3 : decide ((c : Int) < 4) = true := by simp; omega
                      have hst := acc_step hq hla hlb2
                      have hat := acc_at hq hla hlb2
                      have hsm := S2.out a b c hla hlb2 hcN
                      have htm := T2.out a b c hla hlb2 hlc
                      have cm := HM2.out b c hlb2 hlc
                      rw [← hbel.cell (p := ⟨w.heap.size, b * 4 + c, none⟩) hg12] at cm
                      have cl := HT2.out a c hla hlc
                      rw [← hbel.cell (p := ⟨w1.heap.size, a * 4 + c, none⟩) (Nat.lt_succ_self _)] at cl
                      have hfe : mulO 4 (matE 4 false) l a b c = sumTo (mulT 4 (matE 4 false) l a c) 4 * matE 4 false b c := rfl
                      have ct := own_cells hown hq.1 (a * 4 + b) (by omega)
                      rw [hat] at ct
                      obtain ⟨s, hs⟩ : ∃ s, s = sumTo (mulO 4 (matE 4 false) l a b) c := ⟨_, rfl⟩
                      obtain ⟨u, hu⟩ : ∃ u, u = sumTo (mulT 4 (matE 4 false) l a c) 4 := ⟨_, rfl⟩
                      obtain ⟨v, hv⟩ : ∃ v, v = matE 4 false b c := ⟨_, rfl⟩
                      rw [← hu, ← hv] at hfe
                      rw [← hv] at cm
                      rw [← hu] at cl
                      rw [← hs] at hst hsm ct
                      rw [hfe] at hst htm
                      have hp1 : IntKind.i64.wrap (u * v) = u * v := IntWalk.i64_in _ (by omega)
                      have hp2 : IntKind.i64.wrap (s + u * v) = s + u * v := IntWalk.i64_in _ (by omega)
                      have hfz := hown.frozenAt (a * 4 + b)
                      have s1 := hown.drew.stored (a * 4 + b) (.int .i64 (s + u * v))
                      rw [ivs_set] at s1
                      have N1 := Lib.hid s1.1
                      have N3 := Lib.hid (hbel.drew.setCell (p := ⟨w1.heap.size + 1, a * 4 + b, none⟩) (Nat.le_refl _) (.int .i64 (s + u * v)))
                      have HST := Lib.hid hst
                      clear hq hs hu hv s1 hown hbel hst hat hsm hfe htm
                      go_wp2
                      go_region
                      go_wp2
                      go_roundw
                      case rel => exact ⟨c + 1, q.set (a * 4 + b) (s + u * v), by omega, by go_num, HST.out, N1.out, N3.out⟩
                      case measure => simp [intOf]; omega
                    · obtain rfl : c = 4 := by omega
                      have N1 := Lib.hid hown; have N3 := Lib.hid hbel
                      clear hq hown hbel
                      go_wp2
                      go_roundw
                      case rel => exact ⟨b + 1, q, by omega, by go_num, acc_col HQ.out, N1.out, N3.out⟩
                      case measure => simp [intOf]; omega
                · obtain rfl : b = 4 := by omega
                  go_wp2
                  go_roundw
                  case rel => exact ⟨a + 1, p2, by omega, by go_num, acc_row HP4.out, HO4.out, HB4.out⟩
                  case measure => simp [intOf]; omega
            · obtain rfl : a = 4 := by omega
              have hpe := acc_end HP3.out
              subst hpe
              go_wp2
              go_ret
              refine ⟨_, _, rfl, own_lower (own_end HO3.out (sqF_len 4 _)) (by omega), ?_⟩
              exact (B1.out.trans (HB.out.mono (by omega))).trans (HB3.out.mono (by omega))
end Go.Proofs.Ytcmijednpnabmaa
