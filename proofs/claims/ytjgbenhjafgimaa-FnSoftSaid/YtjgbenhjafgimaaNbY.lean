/-
  Contracts of the program's Border and Mean. Condition: a slice is no longer than it holds.
-/
import Derived.Test.YtjgbenhjafgimaaNbX
import Derived.Test.YtjgbenhjafgimaaClone
import Derived.Test.YtjgbenhjafgimaaApp
namespace Go.Proofs.Ytjgbenhjafgimaa
open Go.RowKit
set_option linter.unusedVariables false

theorem sumI_append (a b : List Int) : sumI (a ++ b) (a.length + b.length) = sumI a a.length + sumI b b.length := by
  have h : ∀ k, k ≤ b.length → sumI (a ++ b) (a.length + k) = sumI a a.length + sumI b k := by
    intro k
    induction k with
    | zero => intro _; rw [Nat.add_zero, sumI, Int.add_zero]; exact sumI_congr _ fun i hi => by rw [List.getD_eq_getElem?_getD, List.getD_eq_getElem?_getD, List.getElem?_append_left hi]
    | succ k ih =>
      intro hk
      rw [show a.length + (k + 1) = (a.length + k) + 1 by omega, sumI, sumI, ih (by omega), Int.add_assoc]
      congr 2
      rw [List.getD_eq_getElem?_getD, List.getD_eq_getElem?_getD, List.getElem?_append_right (by omega), show a.length + k - a.length = k by omega]
  exact h _ (Nat.le_refl _)

set_option maxRecDepth 100000 in
set_option maxHeartbeats 4000000 in
theorem impl_border_4 (tb toff : Nat) (cA : Nat) (lb loff : Nat) (cB : Nat) (t l : List Int) (k : Int) (b1 b2 : Bool) (ht : t.length = 8) (hl : l.length = 4) (hcA : 8 ≤ cA) (w : World) (htb : tb < w.heap.size) (hlb : lb < w.heap.size)
    (htc : ∀ j, j < t.length → w.cell? ⟨tb, toff + j, none⟩ = some (.int .i64 (t.getD j 0))) (hlc : ∀ j, j < l.length → w.cell? ⟨lb, loff + j, none⟩ = some (.int .i64 (l.getD j 0)))
    (NK : Hid (∀ w, Ints w w.heap.size (some ⟨tb, toff, none⟩) t → Ints w w.heap.size (some ⟨lb, loff, none⟩) l → Calls Try.prog 21 #[.agg #[.slice (some ⟨tb, toff, none⟩) 8 cA, .slice (some ⟨lb, loff, none⟩) 4 cB, .int .i64 k, .bool b1, .bool b2], .int .i64 4] w fun e w' => e = .returned (.bool true) ∧ Below w.heap.size w w')) :
    Calls Try.prog 20 #[.agg #[.slice (some ⟨tb, toff, none⟩) 8 cA, .slice (some ⟨lb, loff, none⟩) 4 cB, .int .i64 k, .bool b1, .bool b2], .int .i64 4] w fun e w' => ∃ A' c, e = .returned (.slice A' 9 c) ∧ OwnI w' w.heap.size A' c (bordF t l k) ∧ Below w.heap.size w w' := by
  obtain ⟨i0, hi, hz0, hz1, hz2⟩ := info_parts Try.iinfo
  have hcA1 : (4 : Int) ≤ (cA : Int) := by omega
  have hcA2 : 4 ≤ cA := by omega
  have HK := Lib.hid (heap_alloc_new w (.cells #[.slice (some ⟨tb, toff, none⟩) 8 cA, .slice (some ⟨lb, loff, none⟩) 4 cB, .int .i64 k, .bool b1, .bool b2] 26))
  have BW := Lib.hid (below_new w (.cells #[.slice (some ⟨tb, toff, none⟩) 8 cA, .slice (some ⟨lb, loff, none⟩) 4 cB, .int .i64 k, .bool b1, .bool b2] 26))
  have HSZ : Hid ((w.alloc (.cells #[.slice (some ⟨tb, toff, none⟩) 8 cA, .slice (some ⟨lb, loff, none⟩) 4 cB, .int .i64 k, .bool b1, .bool b2] 26)).heap.size = w.heap.size + 1) := Lib.hid (by simp)
  have I1 := Lib.hid fun wr (h : Below w.heap.size w wr) => (⟨by omega, .inr ⟨tb, toff, rfl, Nat.lt_of_lt_of_le htb h.size, fun j hj => by rw [h.cell (p := ⟨tb, toff + j, none⟩) htb]; exact htc j hj⟩⟩ : Ints wr wr.heap.size (some ⟨tb, toff, none⟩) t)
  have I2 := Lib.hid fun wr (h : Below w.heap.size w wr) => (⟨by omega, .inr ⟨lb, loff, rfl, Nat.lt_of_lt_of_le hlb h.size, fun j hj => by rw [h.cell (p := ⟨lb, loff + j, none⟩) hlb]; exact hlc j hj⟩⟩ : Ints wr wr.heap.size (some ⟨lb, loff, none⟩) l)
  have I3 := Lib.hid fun wr (h : Below w.heap.size w wr) => ints_take (g := wr.heap.size) (b := tb) (off := toff) (l := t) (n := 4) (by omega) (by decide) (Nat.lt_of_lt_of_le htb h.size) (fun j hj => by rw [h.cell (p := ⟨tb, toff + j, none⟩) htb]; exact htc j hj)
  have HLN : Hid (4 = (t.take 4).length) := Lib.hid (by rw [List.length_take, ht]; rfl)
  have HTL := Lib.hid ht; have HLL := Lib.hid hl
  have CL := Lib.hid fun wr h => clone_some (some ⟨lb, loff, none⟩) cB l (by omega) (by omega) wr h
  have RV := Lib.hid @reverse_own
  rw [hl] at CL
  clear htc hlc ht hl
  go_enter Try.func20, Try.ntmps20
  go_wp2_with fail
  refine (NK.out _ (I1.out _ BW.out) (I2.out _ BW.out)).mono ?_
  rintro e w1 ⟨rfl, hb1⟩
  have B1 := Lib.hid (below_up BW.out hb1 BW.out.size)
  have K1 := Lib.hid (cell_kept HK.out hb1)
  obtain ⟨c0, c1, c2, c3, c4⟩ := cells5 K1.out
  clear hb1
  go_wp2_with fail
  refine (CL.out _ (I2.out _ B1.out)).mono ?_
  rintro e w2 ⟨Av, c, rfl, ho2, hb2⟩
  have O2 := Lib.hid (ho2); have B2 := Lib.hid (below_up B1.out hb2 B1.out.size); have K2 := Lib.hid (cell_kept K1.out hb2)
  have S2 := Lib.hid hb2.size
  have BL2 := Lib.hid (heap_lt K1.out)
  have RX := Lib.hid (RV.out w1.heap.size Av c l (by rw [HLL.out]; decide) w2 O2.out)
  rw [HLL.out] at RX
  clear c0 c1 c2 c3 c4 ho2 hb2 CL RV
  go_wp2_with fail
  refine RX.out.mono ?_
  rintro e w3 ⟨rfl, ho3, hg3⟩
  have hne : ∀ j, (Value.slice Av 4 c).ownBlock = some j → w1.heap.size ≤ j := fun j hj => (O2.out.block j (by rw [HLL.out]; exact hj)).1
  have B3 := Lib.hid (B2.out.grown hg3 B2.out.size fun j hj => Nat.le_trans B1.out.size (hne j hj))
  have K3 := Lib.hid ((hg3.block w.heap.size (heap_lt K2.out) (fun ee => by have h1 := hne _ ee.symm; have h2 := BL2.out; omega)).trans K2.out)
  have hrl : l.reverse.length = 4 := by rw [List.length_reverse, HLL.out]
  obtain ⟨rv, hrv⟩ : ∃ r, r = l.reverse := ⟨_, rfl⟩
  rw [← hrv] at ho3 hrl
  have ho3' : w3.ownsRow w1.heap.size 3 1 (.slice Av 4 c) 4 (ivs rv) := by
    have := ho3; unfold OwnI at this; rwa [hrl] at this
  have O3 := ho3'
  have SZ3 := Lib.hid (Nat.le_trans S2.out hg3.size)
  have HRV := Lib.hid hrv
  obtain ⟨c0, c1, c2, c3, c4⟩ := cells5 K3.out
  clear ho3 ho3' hg3 hne RX O2 hrl hrv
  go_wp2_with (first
        | (at_builtin; refine append_int w3 rfl (.tmp 15) (.tmp 18) 24 rfl w1.heap.size 3 i0 Try.underlying24 hi hz0 hz1 hz2 _ _ _ rfl O3 _ rfl rfl (by omega) SZ3.out ?_; intro v' w4 hown4 hgr hvb; have B4 := Lib.hid (B3.out.grown hgr B3.out.size fun k hk => Nat.le_trans B1.out.size (O3.lt k hk).1); have K4 := Lib.hid ((hgr.block w.heap.size (heap_lt K3.out) (fun ee => by have h1 := (O3.lt _ ee.symm).1; have h2 := BL2.out; omega)).trans K3.out); have BX4 := Lib.hid ((Below.refl w1.heap.size w1).size); have O4 := Lib.hid hown4; have SZ4 := Lib.hid (Nat.le_trans SZ3.out hgr.size); obtain ⟨A4, cc4, rfl⟩ := own_shape hown4; clear hown4 hgr hvb O3 c0 c1 c2 c3 c4; obtain ⟨c0, c1, c2, c3, c4⟩ := cells5 K4.out)
        | (at_builtin; refine append_ints_at rfl (.tmp 20) (.tmp 24) 24 rfl w1.heap.size i0 Try.underlying24 hi hz0 hz1 hz2 _ _ _ rfl O4.out _ _ _ (t.take 4) HLN.out rfl _ (I3.out _ B4.out) (by rw [← HLN.out]; decide) (by omega) SZ4.out ?_; intro v5 w5 hown5 hgr hvb; have B5 := Lib.hid (B4.out.grown hgr B4.out.size fun k hk => Nat.le_trans B1.out.size (O4.out.lt k hk).1); clear hgr hvb))
  obtain ⟨A5, cc5, rfl⟩ := own_shape hown5
  have e3 : (rv ++ [k]) ++ t.take 4 = bordF t l k := by rw [HRV.out, bordF, HLL.out, List.append_assoc]; rfl
  rw [e3] at hown5
  have hbl : (bordF t l k).length = 9 := bordF_len (m := 4) HTL.out HLL.out
  have O5 := Lib.hid hown5; have HBL := Lib.hid hbl
  clear hown5 e3 hbl
  go_ret
  refine ⟨_, _, rfl, ?_, B5.out⟩
  unfold OwnI
  rw [HBL.out]
  exact own_lower O5.out B1.out.size

set_option maxRecDepth 100000 in
set_option maxHeartbeats 4000000 in
theorem impl_border_8 (tb toff : Nat) (cA : Nat) (lb loff : Nat) (cB : Nat) (t l : List Int) (k : Int) (b1 b2 : Bool) (ht : t.length = 16) (hl : l.length = 8) (hcA : 16 ≤ cA) (w : World) (htb : tb < w.heap.size) (hlb : lb < w.heap.size)
    (htc : ∀ j, j < t.length → w.cell? ⟨tb, toff + j, none⟩ = some (.int .i64 (t.getD j 0))) (hlc : ∀ j, j < l.length → w.cell? ⟨lb, loff + j, none⟩ = some (.int .i64 (l.getD j 0)))
    (NK : Hid (∀ w, Ints w w.heap.size (some ⟨tb, toff, none⟩) t → Ints w w.heap.size (some ⟨lb, loff, none⟩) l → Calls Try.prog 21 #[.agg #[.slice (some ⟨tb, toff, none⟩) 16 cA, .slice (some ⟨lb, loff, none⟩) 8 cB, .int .i64 k, .bool b1, .bool b2], .int .i64 8] w fun e w' => e = .returned (.bool true) ∧ Below w.heap.size w w')) :
    Calls Try.prog 20 #[.agg #[.slice (some ⟨tb, toff, none⟩) 16 cA, .slice (some ⟨lb, loff, none⟩) 8 cB, .int .i64 k, .bool b1, .bool b2], .int .i64 8] w fun e w' => ∃ A' c, e = .returned (.slice A' 17 c) ∧ OwnI w' w.heap.size A' c (bordF t l k) ∧ Below w.heap.size w w' := by
  obtain ⟨i0, hi, hz0, hz1, hz2⟩ := info_parts Try.iinfo
  have hcA1 : (8 : Int) ≤ (cA : Int) := by omega
  have hcA2 : 8 ≤ cA := by omega
  have HK := Lib.hid (heap_alloc_new w (.cells #[.slice (some ⟨tb, toff, none⟩) 16 cA, .slice (some ⟨lb, loff, none⟩) 8 cB, .int .i64 k, .bool b1, .bool b2] 26))
  have BW := Lib.hid (below_new w (.cells #[.slice (some ⟨tb, toff, none⟩) 16 cA, .slice (some ⟨lb, loff, none⟩) 8 cB, .int .i64 k, .bool b1, .bool b2] 26))
  have HSZ : Hid ((w.alloc (.cells #[.slice (some ⟨tb, toff, none⟩) 16 cA, .slice (some ⟨lb, loff, none⟩) 8 cB, .int .i64 k, .bool b1, .bool b2] 26)).heap.size = w.heap.size + 1) := Lib.hid (by simp)
  have I1 := Lib.hid fun wr (h : Below w.heap.size w wr) => (⟨by omega, .inr ⟨tb, toff, rfl, Nat.lt_of_lt_of_le htb h.size, fun j hj => by rw [h.cell (p := ⟨tb, toff + j, none⟩) htb]; exact htc j hj⟩⟩ : Ints wr wr.heap.size (some ⟨tb, toff, none⟩) t)
  have I2 := Lib.hid fun wr (h : Below w.heap.size w wr) => (⟨by omega, .inr ⟨lb, loff, rfl, Nat.lt_of_lt_of_le hlb h.size, fun j hj => by rw [h.cell (p := ⟨lb, loff + j, none⟩) hlb]; exact hlc j hj⟩⟩ : Ints wr wr.heap.size (some ⟨lb, loff, none⟩) l)
  have I3 := Lib.hid fun wr (h : Below w.heap.size w wr) => ints_take (g := wr.heap.size) (b := tb) (off := toff) (l := t) (n := 8) (by omega) (by decide) (Nat.lt_of_lt_of_le htb h.size) (fun j hj => by rw [h.cell (p := ⟨tb, toff + j, none⟩) htb]; exact htc j hj)
  have HLN : Hid (8 = (t.take 8).length) := Lib.hid (by rw [List.length_take, ht]; rfl)
  have HTL := Lib.hid ht; have HLL := Lib.hid hl
  have CL := Lib.hid fun wr h => clone_some (some ⟨lb, loff, none⟩) cB l (by omega) (by omega) wr h
  have RV := Lib.hid @reverse_own
  rw [hl] at CL
  clear htc hlc ht hl
  go_enter Try.func20, Try.ntmps20
  go_wp2_with fail
  refine (NK.out _ (I1.out _ BW.out) (I2.out _ BW.out)).mono ?_
  rintro e w1 ⟨rfl, hb1⟩
  have B1 := Lib.hid (below_up BW.out hb1 BW.out.size)
  have K1 := Lib.hid (cell_kept HK.out hb1)
  obtain ⟨c0, c1, c2, c3, c4⟩ := cells5 K1.out
  clear hb1
  go_wp2_with fail
  refine (CL.out _ (I2.out _ B1.out)).mono ?_
  rintro e w2 ⟨Av, c, rfl, ho2, hb2⟩
  have O2 := Lib.hid (ho2); have B2 := Lib.hid (below_up B1.out hb2 B1.out.size); have K2 := Lib.hid (cell_kept K1.out hb2)
  have S2 := Lib.hid hb2.size
  have BL2 := Lib.hid (heap_lt K1.out)
  have RX := Lib.hid (RV.out w1.heap.size Av c l (by rw [HLL.out]; decide) w2 O2.out)
  rw [HLL.out] at RX
  clear c0 c1 c2 c3 c4 ho2 hb2 CL RV
  go_wp2_with fail
  refine RX.out.mono ?_
  rintro e w3 ⟨rfl, ho3, hg3⟩
  have hne : ∀ j, (Value.slice Av 8 c).ownBlock = some j → w1.heap.size ≤ j := fun j hj => (O2.out.block j (by rw [HLL.out]; exact hj)).1
  have B3 := Lib.hid (B2.out.grown hg3 B2.out.size fun j hj => Nat.le_trans B1.out.size (hne j hj))
  have K3 := Lib.hid ((hg3.block w.heap.size (heap_lt K2.out) (fun ee => by have h1 := hne _ ee.symm; have h2 := BL2.out; omega)).trans K2.out)
  have hrl : l.reverse.length = 8 := by rw [List.length_reverse, HLL.out]
  obtain ⟨rv, hrv⟩ : ∃ r, r = l.reverse := ⟨_, rfl⟩
  rw [← hrv] at ho3 hrl
  have ho3' : w3.ownsRow w1.heap.size 3 1 (.slice Av 8 c) 8 (ivs rv) := by
    have := ho3; unfold OwnI at this; rwa [hrl] at this
  have O3 := ho3'
  have SZ3 := Lib.hid (Nat.le_trans S2.out hg3.size)
  have HRV := Lib.hid hrv
  obtain ⟨c0, c1, c2, c3, c4⟩ := cells5 K3.out
  clear ho3 ho3' hg3 hne RX O2 hrl hrv
  go_wp2_with (first
        | (at_builtin; refine append_int w3 rfl (.tmp 15) (.tmp 18) 24 rfl w1.heap.size 3 i0 Try.underlying24 hi hz0 hz1 hz2 _ _ _ rfl O3 _ rfl rfl (by omega) SZ3.out ?_; intro v' w4 hown4 hgr hvb; have B4 := Lib.hid (B3.out.grown hgr B3.out.size fun k hk => Nat.le_trans B1.out.size (O3.lt k hk).1); have K4 := Lib.hid ((hgr.block w.heap.size (heap_lt K3.out) (fun ee => by have h1 := (O3.lt _ ee.symm).1; have h2 := BL2.out; omega)).trans K3.out); have BX4 := Lib.hid ((Below.refl w1.heap.size w1).size); have O4 := Lib.hid hown4; have SZ4 := Lib.hid (Nat.le_trans SZ3.out hgr.size); obtain ⟨A4, cc4, rfl⟩ := own_shape hown4; clear hown4 hgr hvb O3 c0 c1 c2 c3 c4; obtain ⟨c0, c1, c2, c3, c4⟩ := cells5 K4.out)
        | (at_builtin; refine append_ints_at rfl (.tmp 20) (.tmp 24) 24 rfl w1.heap.size i0 Try.underlying24 hi hz0 hz1 hz2 _ _ _ rfl O4.out _ _ _ (t.take 8) HLN.out rfl _ (I3.out _ B4.out) (by rw [← HLN.out]; decide) (by omega) SZ4.out ?_; intro v5 w5 hown5 hgr hvb; have B5 := Lib.hid (B4.out.grown hgr B4.out.size fun k hk => Nat.le_trans B1.out.size (O4.out.lt k hk).1); clear hgr hvb))
  obtain ⟨A5, cc5, rfl⟩ := own_shape hown5
  have e3 : (rv ++ [k]) ++ t.take 8 = bordF t l k := by rw [HRV.out, bordF, HLL.out, List.append_assoc]; rfl
  rw [e3] at hown5
  have hbl : (bordF t l k).length = 17 := bordF_len (m := 8) HTL.out HLL.out
  have O5 := Lib.hid hown5; have HBL := Lib.hid hbl
  clear hown5 e3 hbl
  go_ret
  refine ⟨_, _, rfl, ?_, B5.out⟩
  unfold OwnI
  rw [HBL.out]
  exact own_lower O5.out B1.out.size

set_option maxRecDepth 100000 in
set_option maxHeartbeats 1000000 in
theorem impl_border_any (A : Option Addr) (cA : Nat) (B : Option Addr) (cB : Nat) (t l : List Int) (k : Int) (b1 b2 : Bool) (n : Int) (w : World) (hT : Ints w w.heap.size A t) (hL : Ints w w.heap.size B l) (hcA : t.length ≤ cA) :
    Calls Try.prog 20 #[.agg #[.slice A t.length cA, .slice B l.length cB, .int .i64 k, .bool b1, .bool b2], .int .i64 n] w fun e w' => ∃ A' c, e = .returned (.slice A' (bordL t l k n).length c) ∧ OwnI w' w.heap.size A' c (bordL t l k n) ∧ Below w.heap.size w w' := by
  have NK := Lib.hid fun w h1 h2 => impl_nbok_any A cA B cB t l k b1 b2 n w h1 h2
  cases hok : nbOk t l k n with
  | true =>
    rw [hok] at NK
    rw [nbOk_true_bord hok]
    obtain ⟨m, rfl, hm, ht, hl, _⟩ := nbOk_side hok
    obtain ⟨tb, toff, rfl, htb, htc⟩ := hT.at 0 (by omega)
    obtain ⟨lb, loff, rfl, hlb, hlc⟩ := hL.at 0 (by omega)
    rw [bordF_len ht hl]
    rw [ht, hl] at NK ⊢
    rcases hm with rfl | rfl
    · exact impl_border_4 tb toff cA lb loff cB t l k b1 b2 ht hl (by omega) w htb hlb htc hlc NK
    · exact impl_border_8 tb toff cA lb loff cB t l k b1 b2 ht hl (by omega) w htb hlb htc hlc NK
  | false =>
    rw [hok] at NK
    rw [nbOk_false_bord hok]
    have b2' := below_new w (.cells #[.slice A t.length cA, .slice B l.length cB, .int .i64 k, .bool b1, .bool b2] 26)
    have B0 := Lib.hid b2'
    have HT := Lib.hid ((hT.below b2' (Nat.le_refl _)).mono b2'.size)
    have HL := Lib.hid ((hL.below b2' (Nat.le_refl _)).mono b2'.size)
    have hnt := hT.1; have hnl := hL.1
    clear hok hT hL b2' hcA
    go_enter Try.func20, Try.ntmps20
    go_wp2_with fail
    refine (NK.out _ HT.out HL.out).mono ?_
    rintro e w1 ⟨rfl, hb1⟩
    have B1 := Lib.hid (below_up B0.out hb1 B0.out.size)
    have O1 := Lib.hid (World.ownsRow_nil w1 w.heap.size 3 1)
    clear hb1
    go_wp2
    go_ret
    exact ⟨_, _, rfl, O1.out, B1.out⟩

set_option maxRecDepth 100000 in
set_option maxHeartbeats 4000000 in
theorem impl_mean_4_false_false (tb toff : Nat) (cA : Nat) (lb loff : Nat) (cB : Nat) (t l : List Int) (k : Int) (ht : t.length = 8) (hl : l.length = 4) (hcA : 8 ≤ cA) (w : World) (htb : tb < w.heap.size) (hlb : lb < w.heap.size)
    (htc : ∀ j, j < t.length → w.cell? ⟨tb, toff + j, none⟩ = some (.int .i64 (t.getD j 0))) (hlc : ∀ j, j < l.length → w.cell? ⟨lb, loff + j, none⟩ = some (.int .i64 (l.getD j 0)))
    (NK : Hid (∀ w, Ints w w.heap.size (some ⟨tb, toff, none⟩) t → Ints w w.heap.size (some ⟨lb, loff, none⟩) l → Calls Try.prog 21 #[.agg #[.slice (some ⟨tb, toff, none⟩) 8 cA, .slice (some ⟨lb, loff, none⟩) 4 cB, .int .i64 k, .bool false, .bool false], .int .i64 4] w fun e w' => e = .returned (.bool true) ∧ Below w.heap.size w w'))
    (hpt : ∀ i, i < 4 → 0 ≤ t.getD i 0 ∧ t.getD i 0 ≤ 255) (hpl : ∀ i, i < 4 → 0 ≤ l.getD i 0 ∧ l.getD i 0 ≤ 255) :
    Calls Try.prog 19 #[.agg #[.slice (some ⟨tb, toff, none⟩) 8 cA, .slice (some ⟨lb, loff, none⟩) 4 cB, .int .i64 k, .bool false, .bool false], .int .i64 4] w fun e w' => e = .returned (.int .i64 128) ∧ Below w.heap.size w w' := by
  obtain ⟨i0, hi, hz0, hz1, hz2⟩ := info_parts Try.iinfo
  have hcA1 : (4 : Int) ≤ (cA : Int) := by omega
  have hcA2 : 4 ≤ cA := by omega
  have HK := Lib.hid (heap_alloc_new w (.cells #[.slice (some ⟨tb, toff, none⟩) 8 cA, .slice (some ⟨lb, loff, none⟩) 4 cB, .int .i64 k, .bool false, .bool false] 26))
  have BW := Lib.hid (below_new w (.cells #[.slice (some ⟨tb, toff, none⟩) 8 cA, .slice (some ⟨lb, loff, none⟩) 4 cB, .int .i64 k, .bool false, .bool false] 26))
  have HSZ : Hid ((w.alloc (.cells #[.slice (some ⟨tb, toff, none⟩) 8 cA, .slice (some ⟨lb, loff, none⟩) 4 cB, .int .i64 k, .bool false, .bool false] 26)).heap.size = w.heap.size + 1) := Lib.hid (by simp)
  have I1 := Lib.hid fun wr (h : Below w.heap.size w wr) => (⟨by omega, .inr ⟨tb, toff, rfl, Nat.lt_of_lt_of_le htb h.size, fun j hj => by rw [h.cell (p := ⟨tb, toff + j, none⟩) htb]; exact htc j hj⟩⟩ : Ints wr wr.heap.size (some ⟨tb, toff, none⟩) t)
  have I2 := Lib.hid fun wr (h : Below w.heap.size w wr) => (⟨by omega, .inr ⟨lb, loff, rfl, Nat.lt_of_lt_of_le hlb h.size, fun j hj => by rw [h.cell (p := ⟨lb, loff + j, none⟩) hlb]; exact hlc j hj⟩⟩ : Ints wr wr.heap.size (some ⟨lb, loff, none⟩) l)
  have I3 := Lib.hid fun wr (h : Below w.heap.size w wr) => ints_take (g := wr.heap.size) (b := tb) (off := toff) (l := t) (n := 4) (by omega) (by decide) (Nat.lt_of_lt_of_le htb h.size) (fun j hj => by rw [h.cell (p := ⟨tb, toff + j, none⟩) htb]; exact htc j hj)
  have HLN : Hid (4 = (t.take 4).length) := Lib.hid (by rw [List.length_take, ht]; rfl)
  have HTL := Lib.hid ht; have HLL := Lib.hid hl
  clear htc hlc ht hl hpt hpl
  go_enter Try.func19, Try.ntmps19
  go_wp2_with fail
  refine (NK.out _ (I1.out _ BW.out) (I2.out _ BW.out)).mono ?_
  rintro e w1 ⟨rfl, hb1⟩
  have B1 := Lib.hid (below_up BW.out hb1 BW.out.size)
  have K1 := Lib.hid (cell_kept HK.out hb1)
  obtain ⟨c0, c1, c2, c3, c4⟩ := cells5 K1.out
  clear hb1
  have NI := Lib.hid (World.ownsRow_nil w1 w1.heap.size 3 1)
  go_wp2
  go_ret
  exact ⟨rfl, B1.out⟩

set_option maxRecDepth 100000 in
set_option maxHeartbeats 4000000 in
theorem impl_mean_4_false_true (tb toff : Nat) (cA : Nat) (lb loff : Nat) (cB : Nat) (t l : List Int) (k : Int) (ht : t.length = 8) (hl : l.length = 4) (hcA : 8 ≤ cA) (w : World) (htb : tb < w.heap.size) (hlb : lb < w.heap.size)
    (htc : ∀ j, j < t.length → w.cell? ⟨tb, toff + j, none⟩ = some (.int .i64 (t.getD j 0))) (hlc : ∀ j, j < l.length → w.cell? ⟨lb, loff + j, none⟩ = some (.int .i64 (l.getD j 0)))
    (NK : Hid (∀ w, Ints w w.heap.size (some ⟨tb, toff, none⟩) t → Ints w w.heap.size (some ⟨lb, loff, none⟩) l → Calls Try.prog 21 #[.agg #[.slice (some ⟨tb, toff, none⟩) 8 cA, .slice (some ⟨lb, loff, none⟩) 4 cB, .int .i64 k, .bool false, .bool true], .int .i64 4] w fun e w' => e = .returned (.bool true) ∧ Below w.heap.size w w'))
    (hpt : ∀ i, i < 4 → 0 ≤ t.getD i 0 ∧ t.getD i 0 ≤ 255) (hpl : ∀ i, i < 4 → 0 ≤ l.getD i 0 ∧ l.getD i 0 ≤ 255) :
    Calls Try.prog 19 #[.agg #[.slice (some ⟨tb, toff, none⟩) 8 cA, .slice (some ⟨lb, loff, none⟩) 4 cB, .int .i64 k, .bool false, .bool true], .int .i64 4] w fun e w' => e = .returned (.int .i64 ((sumI l 4 + 2) / 4)) ∧ Below w.heap.size w w' := by
  obtain ⟨i0, hi, hz0, hz1, hz2⟩ := info_parts Try.iinfo
  have hcA1 : (4 : Int) ≤ (cA : Int) := by omega
  have hcA2 : 4 ≤ cA := by omega
  have HK := Lib.hid (heap_alloc_new w (.cells #[.slice (some ⟨tb, toff, none⟩) 8 cA, .slice (some ⟨lb, loff, none⟩) 4 cB, .int .i64 k, .bool false, .bool true] 26))
  have BW := Lib.hid (below_new w (.cells #[.slice (some ⟨tb, toff, none⟩) 8 cA, .slice (some ⟨lb, loff, none⟩) 4 cB, .int .i64 k, .bool false, .bool true] 26))
  have HSZ : Hid ((w.alloc (.cells #[.slice (some ⟨tb, toff, none⟩) 8 cA, .slice (some ⟨lb, loff, none⟩) 4 cB, .int .i64 k, .bool false, .bool true] 26)).heap.size = w.heap.size + 1) := Lib.hid (by simp)
  have I1 := Lib.hid fun wr (h : Below w.heap.size w wr) => (⟨by omega, .inr ⟨tb, toff, rfl, Nat.lt_of_lt_of_le htb h.size, fun j hj => by rw [h.cell (p := ⟨tb, toff + j, none⟩) htb]; exact htc j hj⟩⟩ : Ints wr wr.heap.size (some ⟨tb, toff, none⟩) t)
  have I2 := Lib.hid fun wr (h : Below w.heap.size w wr) => (⟨by omega, .inr ⟨lb, loff, rfl, Nat.lt_of_lt_of_le hlb h.size, fun j hj => by rw [h.cell (p := ⟨lb, loff + j, none⟩) hlb]; exact hlc j hj⟩⟩ : Ints wr wr.heap.size (some ⟨lb, loff, none⟩) l)
  have I3 := Lib.hid fun wr (h : Below w.heap.size w wr) => ints_take (g := wr.heap.size) (b := tb) (off := toff) (l := t) (n := 4) (by omega) (by decide) (Nat.lt_of_lt_of_le htb h.size) (fun j hj => by rw [h.cell (p := ⟨tb, toff + j, none⟩) htb]; exact htc j hj)
  have HLN : Hid (4 = (t.take 4).length) := Lib.hid (by rw [List.length_take, ht]; rfl)
  have HTL := Lib.hid ht; have HLL := Lib.hid hl
  have hs1 := sumI_pix (l := t) 4 hpt
  have hs2 := sumI_pix (l := l) 4 hpl
  have e1 : sumI (t.take 4) 4 = sumI t 4 := sumI_congr 4 fun i hi => by rw [List.getD_eq_getElem?_getD, List.getD_eq_getElem?_getD, List.getElem?_take, if_pos hi]
  have hpt2 : ∀ i, i < 4 → 0 ≤ (t.take 4).getD i 0 ∧ (t.take 4).getD i 0 ≤ 255 := fun i hi => by
    rw [List.getD_eq_getElem?_getD, List.getElem?_take, if_pos hi, ← List.getD_eq_getElem?_getD]; exact hpt i hi
  have hp := hpl
  have hlen : l.length = 4 := hl
  obtain ⟨L, hL⟩ : ∃ L, L = l := ⟨_, rfl⟩
  rw [← hL] at hp hlen ⊢
  have HS := Lib.hid fun k (hk : k ≤ 4) => sumI_pix (l := L) k fun i hi => hp i (by omega)
  have HP := Lib.hid hp; have HL := Lib.hid hL; have HE := Lib.hid hlen
  clear hs1 hs2 e1 hpt2 hp hlen hL
  clear htc hlc ht hl hpt hpl
  go_enter Try.func19, Try.ntmps19
  go_wp2_with fail
  refine (NK.out _ (I1.out _ BW.out) (I2.out _ BW.out)).mono ?_
  rintro e w1 ⟨rfl, hb1⟩
  have B1 := Lib.hid (below_up BW.out hb1 BW.out.size)
  have K1 := Lib.hid (cell_kept HK.out hb1)
  obtain ⟨c0, c1, c2, c3, c4⟩ := cells5 K1.out
  clear hb1
  have NI := Lib.hid (World.ownsRow_nil w1 w1.heap.size 3 1)
  go_wp2_with (first
    | (at_builtin; refine append_ints_at rfl (.tmp 24) (.tmp 26) 24 rfl w1.heap.size i0 Try.underlying24 hi hz0 hz1 hz2 _ _ [] rfl NI.out _ _ _ l HLL.out.symm rfl _ (I2.out _ B1.out) (by rw [← HLL.out.symm]; decide) (by omega) (Nat.le_refl _) ?_; intro v' w2 hown' hgr hvb; have B2 := Lib.hid (B1.out.grown hgr B1.out.size fun k hk => Nat.le_trans B1.out.size (World.ownsRow.lt NI.out k hk).1); have K2 := Lib.hid ((hgr.block w.heap.size (heap_lt K1.out) (fun ee => by have h1 := (World.ownsRow.lt NI.out _ ee.symm).1; have h2 := heap_lt K1.out; omega)).trans K1.out); have SZ2 := Lib.hid (Nat.le_trans (Nat.le_refl _) hgr.size); obtain ⟨A2, cc2, rfl⟩ := own_shape hown'; have O2 := Lib.hid hown'; clear hown' hgr hvb c0 c1 c2 c3 c4; obtain ⟨c0, c1, c2, c3, c4⟩ := cells5 K2.out))
  have hO : w2.ownsRow w1.heap.size 3 1 (.slice A2 4 cc2) 4 (ivs L) := by
    have h : w2.ownsRow w1.heap.size 3 1 (.slice A2 4 cc2) 4 (ivs l) := O2.out
    rw [← HL.out] at h
    exact h
  have OX : Hid (OwnI w2 w1.heap.size A2 cc2 L) := Lib.hid (by unfold OwnI; rw [HE.out]; exact hO)
  have IX := Lib.hid (OX.out.ints (by rw [HE.out]; decide))
  clear hO c0 c1 c2 c3 c4 OX
  go_loop [7, 9, 36] (fun s x i => ∃ j : Nat, j ≤ 4 ∧ i = .int .i64 j ∧ s = .int .i64 (2 + sumI L j))
    (fun _ _ i => 4 - (intOf i).toNat)
  case atStart => exact ⟨0, Nat.zero_le _, rfl, rfl⟩
  case round =>
    obtain ⟨j, hj, rfl, rfl⟩ := hrel
    by_cases hlt : j < 4
    · obtain ⟨b, off, rfl, hb, hc⟩ := IX.out.at j (by rw [HE.out]; exact hlt)
      have c1 := hc j (by rw [HE.out]; exact hlt)
      have h1 := HS.out j hj
      have h2 := HP.out j hlt
      have E : sumI L (j + 1) = sumI L j + L.getD j 0 := rfl
      obtain ⟨x, hx⟩ : ∃ x, x = L.getD j 0 := ⟨_, rfl⟩
      obtain ⟨s, hs⟩ : ∃ s, s = sumI L j := ⟨_, rfl⟩
      rw [← hx] at c1 h2 E
      rw [← hs] at h1 E ⊢
      have HE2 := Lib.hid E
      clear hc hx hs E
      go_wp2
      go_round
      case rel => exact ⟨j + 1, by omega, by go_num, by rw [HE2.out, Int.add_assoc]⟩
      case measure => simp [intOf]; omega
    · obtain rfl : j = 4 := by omega
      have h1 := HS.out 4 (Nat.le_refl _)
      obtain ⟨S, hS⟩ : ∃ s, s = sumI L 4 := ⟨_, rfl⟩
      rw [← hS] at h1 ⊢
      have HSS := Lib.hid hS; clear hS
      have hv : (2 + S).tdiv 4 = (S + 2) / 4 := by rw [Int.add_comm]; exact Int.tdiv_eq_ediv_of_nonneg (by omega)
      obtain ⟨z, hz⟩ : ∃ z, z = (S + 2) / 4 := ⟨_, rfl⟩
      have hz1 : 0 ≤ z ∧ z ≤ 100000 := by omega
      rw [← hz] at hv
      have HZ := Lib.hid hz
      clear hz
      go_wp2
      go_ret
      exact ⟨by rw [← HSS.out, ← HZ.out]; rfl, B2.out⟩

set_option maxRecDepth 100000 in
set_option maxHeartbeats 4000000 in
theorem impl_mean_4_true_false (tb toff : Nat) (cA : Nat) (lb loff : Nat) (cB : Nat) (t l : List Int) (k : Int) (ht : t.length = 8) (hl : l.length = 4) (hcA : 8 ≤ cA) (w : World) (htb : tb < w.heap.size) (hlb : lb < w.heap.size)
    (htc : ∀ j, j < t.length → w.cell? ⟨tb, toff + j, none⟩ = some (.int .i64 (t.getD j 0))) (hlc : ∀ j, j < l.length → w.cell? ⟨lb, loff + j, none⟩ = some (.int .i64 (l.getD j 0)))
    (NK : Hid (∀ w, Ints w w.heap.size (some ⟨tb, toff, none⟩) t → Ints w w.heap.size (some ⟨lb, loff, none⟩) l → Calls Try.prog 21 #[.agg #[.slice (some ⟨tb, toff, none⟩) 8 cA, .slice (some ⟨lb, loff, none⟩) 4 cB, .int .i64 k, .bool true, .bool false], .int .i64 4] w fun e w' => e = .returned (.bool true) ∧ Below w.heap.size w w'))
    (hpt : ∀ i, i < 4 → 0 ≤ t.getD i 0 ∧ t.getD i 0 ≤ 255) (hpl : ∀ i, i < 4 → 0 ≤ l.getD i 0 ∧ l.getD i 0 ≤ 255) :
    Calls Try.prog 19 #[.agg #[.slice (some ⟨tb, toff, none⟩) 8 cA, .slice (some ⟨lb, loff, none⟩) 4 cB, .int .i64 k, .bool true, .bool false], .int .i64 4] w fun e w' => e = .returned (.int .i64 ((sumI t 4 + 2) / 4)) ∧ Below w.heap.size w w' := by
  obtain ⟨i0, hi, hz0, hz1, hz2⟩ := info_parts Try.iinfo
  have hcA1 : (4 : Int) ≤ (cA : Int) := by omega
  have hcA2 : 4 ≤ cA := by omega
  have HK := Lib.hid (heap_alloc_new w (.cells #[.slice (some ⟨tb, toff, none⟩) 8 cA, .slice (some ⟨lb, loff, none⟩) 4 cB, .int .i64 k, .bool true, .bool false] 26))
  have BW := Lib.hid (below_new w (.cells #[.slice (some ⟨tb, toff, none⟩) 8 cA, .slice (some ⟨lb, loff, none⟩) 4 cB, .int .i64 k, .bool true, .bool false] 26))
  have HSZ : Hid ((w.alloc (.cells #[.slice (some ⟨tb, toff, none⟩) 8 cA, .slice (some ⟨lb, loff, none⟩) 4 cB, .int .i64 k, .bool true, .bool false] 26)).heap.size = w.heap.size + 1) := Lib.hid (by simp)
  have I1 := Lib.hid fun wr (h : Below w.heap.size w wr) => (⟨by omega, .inr ⟨tb, toff, rfl, Nat.lt_of_lt_of_le htb h.size, fun j hj => by rw [h.cell (p := ⟨tb, toff + j, none⟩) htb]; exact htc j hj⟩⟩ : Ints wr wr.heap.size (some ⟨tb, toff, none⟩) t)
  have I2 := Lib.hid fun wr (h : Below w.heap.size w wr) => (⟨by omega, .inr ⟨lb, loff, rfl, Nat.lt_of_lt_of_le hlb h.size, fun j hj => by rw [h.cell (p := ⟨lb, loff + j, none⟩) hlb]; exact hlc j hj⟩⟩ : Ints wr wr.heap.size (some ⟨lb, loff, none⟩) l)
  have I3 := Lib.hid fun wr (h : Below w.heap.size w wr) => ints_take (g := wr.heap.size) (b := tb) (off := toff) (l := t) (n := 4) (by omega) (by decide) (Nat.lt_of_lt_of_le htb h.size) (fun j hj => by rw [h.cell (p := ⟨tb, toff + j, none⟩) htb]; exact htc j hj)
  have HLN : Hid (4 = (t.take 4).length) := Lib.hid (by rw [List.length_take, ht]; rfl)
  have HTL := Lib.hid ht; have HLL := Lib.hid hl
  have hs1 := sumI_pix (l := t) 4 hpt
  have hs2 := sumI_pix (l := l) 4 hpl
  have e1 : sumI (t.take 4) 4 = sumI t 4 := sumI_congr 4 fun i hi => by rw [List.getD_eq_getElem?_getD, List.getD_eq_getElem?_getD, List.getElem?_take, if_pos hi]
  have hpt2 : ∀ i, i < 4 → 0 ≤ (t.take 4).getD i 0 ∧ (t.take 4).getD i 0 ≤ 255 := fun i hi => by
    rw [List.getD_eq_getElem?_getD, List.getElem?_take, if_pos hi, ← List.getD_eq_getElem?_getD]; exact hpt i hi
  have hp := hpt2
  have hlen : (t.take 4).length = 4 := HLN.out.symm
  rw [← e1]
  obtain ⟨L, hL⟩ : ∃ L, L = t.take 4 := ⟨_, rfl⟩
  rw [← hL] at hp hlen ⊢
  have HS := Lib.hid fun k (hk : k ≤ 4) => sumI_pix (l := L) k fun i hi => hp i (by omega)
  have HP := Lib.hid hp; have HL := Lib.hid hL; have HE := Lib.hid hlen
  clear hs1 hs2 e1 hpt2 hp hlen hL
  clear htc hlc ht hl hpt hpl
  go_enter Try.func19, Try.ntmps19
  go_wp2_with fail
  refine (NK.out _ (I1.out _ BW.out) (I2.out _ BW.out)).mono ?_
  rintro e w1 ⟨rfl, hb1⟩
  have B1 := Lib.hid (below_up BW.out hb1 BW.out.size)
  have K1 := Lib.hid (cell_kept HK.out hb1)
  obtain ⟨c0, c1, c2, c3, c4⟩ := cells5 K1.out
  clear hb1
  have NI := Lib.hid (World.ownsRow_nil w1 w1.heap.size 3 1)
  go_wp2_with (first
    | (at_builtin; refine append_ints_at rfl (.tmp 16) (.tmp 20) 24 rfl w1.heap.size i0 Try.underlying24 hi hz0 hz1 hz2 _ _ [] rfl NI.out _ _ _ (t.take 4) HLN.out rfl _ (I3.out _ B1.out) (by rw [← HLN.out]; decide) (by omega) (Nat.le_refl _) ?_; intro v' w2 hown' hgr hvb; have B2 := Lib.hid (B1.out.grown hgr B1.out.size fun k hk => Nat.le_trans B1.out.size (World.ownsRow.lt NI.out k hk).1); have K2 := Lib.hid ((hgr.block w.heap.size (heap_lt K1.out) (fun ee => by have h1 := (World.ownsRow.lt NI.out _ ee.symm).1; have h2 := heap_lt K1.out; omega)).trans K1.out); have SZ2 := Lib.hid (Nat.le_trans (Nat.le_refl _) hgr.size); obtain ⟨A2, cc2, rfl⟩ := own_shape hown'; have O2 := Lib.hid hown'; clear hown' hgr hvb c0 c1 c2 c3 c4; obtain ⟨c0, c1, c2, c3, c4⟩ := cells5 K2.out))
  have hO : w2.ownsRow w1.heap.size 3 1 (.slice A2 4 cc2) 4 (ivs L) := by
    have h : w2.ownsRow w1.heap.size 3 1 (.slice A2 4 cc2) 4 (ivs (t.take 4)) := O2.out
    rw [← HL.out] at h
    exact h
  have OX : Hid (OwnI w2 w1.heap.size A2 cc2 L) := Lib.hid (by unfold OwnI; rw [HE.out]; exact hO)
  have IX := Lib.hid (OX.out.ints (by rw [HE.out]; decide))
  clear hO c0 c1 c2 c3 c4 OX
  go_loop [7, 9, 36] (fun s x i => ∃ j : Nat, j ≤ 4 ∧ i = .int .i64 j ∧ s = .int .i64 (2 + sumI L j))
    (fun _ _ i => 4 - (intOf i).toNat)
  case atStart => exact ⟨0, Nat.zero_le _, rfl, rfl⟩
  case round =>
    obtain ⟨j, hj, rfl, rfl⟩ := hrel
    by_cases hlt : j < 4
    · obtain ⟨b, off, rfl, hb, hc⟩ := IX.out.at j (by rw [HE.out]; exact hlt)
      have c1 := hc j (by rw [HE.out]; exact hlt)
      have h1 := HS.out j hj
      have h2 := HP.out j hlt
      have E : sumI L (j + 1) = sumI L j + L.getD j 0 := rfl
      obtain ⟨x, hx⟩ : ∃ x, x = L.getD j 0 := ⟨_, rfl⟩
      obtain ⟨s, hs⟩ : ∃ s, s = sumI L j := ⟨_, rfl⟩
      rw [← hx] at c1 h2 E
      rw [← hs] at h1 E ⊢
      have HE2 := Lib.hid E
      clear hc hx hs E
      go_wp2
      go_round
      case rel => exact ⟨j + 1, by omega, by go_num, by rw [HE2.out, Int.add_assoc]⟩
      case measure => simp [intOf]; omega
    · obtain rfl : j = 4 := by omega
      have h1 := HS.out 4 (Nat.le_refl _)
      obtain ⟨S, hS⟩ : ∃ s, s = sumI L 4 := ⟨_, rfl⟩
      rw [← hS] at h1 ⊢
      have HSS := Lib.hid hS; clear hS
      have hv : (2 + S).tdiv 4 = (S + 2) / 4 := by rw [Int.add_comm]; exact Int.tdiv_eq_ediv_of_nonneg (by omega)
      obtain ⟨z, hz⟩ : ∃ z, z = (S + 2) / 4 := ⟨_, rfl⟩
      have hz1 : 0 ≤ z ∧ z ≤ 100000 := by omega
      rw [← hz] at hv
      have HZ := Lib.hid hz
      clear hz
      go_wp2
      go_ret
      exact ⟨by rw [← HSS.out, ← HZ.out]; rfl, B2.out⟩

set_option maxRecDepth 100000 in
set_option maxHeartbeats 4000000 in
theorem impl_mean_4_true_true (tb toff : Nat) (cA : Nat) (lb loff : Nat) (cB : Nat) (t l : List Int) (k : Int) (ht : t.length = 8) (hl : l.length = 4) (hcA : 8 ≤ cA) (w : World) (htb : tb < w.heap.size) (hlb : lb < w.heap.size)
    (htc : ∀ j, j < t.length → w.cell? ⟨tb, toff + j, none⟩ = some (.int .i64 (t.getD j 0))) (hlc : ∀ j, j < l.length → w.cell? ⟨lb, loff + j, none⟩ = some (.int .i64 (l.getD j 0)))
    (NK : Hid (∀ w, Ints w w.heap.size (some ⟨tb, toff, none⟩) t → Ints w w.heap.size (some ⟨lb, loff, none⟩) l → Calls Try.prog 21 #[.agg #[.slice (some ⟨tb, toff, none⟩) 8 cA, .slice (some ⟨lb, loff, none⟩) 4 cB, .int .i64 k, .bool true, .bool true], .int .i64 4] w fun e w' => e = .returned (.bool true) ∧ Below w.heap.size w w'))
    (hpt : ∀ i, i < 4 → 0 ≤ t.getD i 0 ∧ t.getD i 0 ≤ 255) (hpl : ∀ i, i < 4 → 0 ≤ l.getD i 0 ∧ l.getD i 0 ≤ 255) :
    Calls Try.prog 19 #[.agg #[.slice (some ⟨tb, toff, none⟩) 8 cA, .slice (some ⟨lb, loff, none⟩) 4 cB, .int .i64 k, .bool true, .bool true], .int .i64 4] w fun e w' => e = .returned (.int .i64 ((sumI t 4 + sumI l 4 + 4) / 8)) ∧ Below w.heap.size w w' := by
  obtain ⟨i0, hi, hz0, hz1, hz2⟩ := info_parts Try.iinfo
  have hcA1 : (4 : Int) ≤ (cA : Int) := by omega
  have hcA2 : 4 ≤ cA := by omega
  have HK := Lib.hid (heap_alloc_new w (.cells #[.slice (some ⟨tb, toff, none⟩) 8 cA, .slice (some ⟨lb, loff, none⟩) 4 cB, .int .i64 k, .bool true, .bool true] 26))
  have BW := Lib.hid (below_new w (.cells #[.slice (some ⟨tb, toff, none⟩) 8 cA, .slice (some ⟨lb, loff, none⟩) 4 cB, .int .i64 k, .bool true, .bool true] 26))
  have HSZ : Hid ((w.alloc (.cells #[.slice (some ⟨tb, toff, none⟩) 8 cA, .slice (some ⟨lb, loff, none⟩) 4 cB, .int .i64 k, .bool true, .bool true] 26)).heap.size = w.heap.size + 1) := Lib.hid (by simp)
  have I1 := Lib.hid fun wr (h : Below w.heap.size w wr) => (⟨by omega, .inr ⟨tb, toff, rfl, Nat.lt_of_lt_of_le htb h.size, fun j hj => by rw [h.cell (p := ⟨tb, toff + j, none⟩) htb]; exact htc j hj⟩⟩ : Ints wr wr.heap.size (some ⟨tb, toff, none⟩) t)
  have I2 := Lib.hid fun wr (h : Below w.heap.size w wr) => (⟨by omega, .inr ⟨lb, loff, rfl, Nat.lt_of_lt_of_le hlb h.size, fun j hj => by rw [h.cell (p := ⟨lb, loff + j, none⟩) hlb]; exact hlc j hj⟩⟩ : Ints wr wr.heap.size (some ⟨lb, loff, none⟩) l)
  have I3 := Lib.hid fun wr (h : Below w.heap.size w wr) => ints_take (g := wr.heap.size) (b := tb) (off := toff) (l := t) (n := 4) (by omega) (by decide) (Nat.lt_of_lt_of_le htb h.size) (fun j hj => by rw [h.cell (p := ⟨tb, toff + j, none⟩) htb]; exact htc j hj)
  have HLN : Hid (4 = (t.take 4).length) := Lib.hid (by rw [List.length_take, ht]; rfl)
  have HTL := Lib.hid ht; have HLL := Lib.hid hl
  have hs1 := sumI_pix (l := t) 4 hpt
  have hs2 := sumI_pix (l := l) 4 hpl
  have e1 : sumI (t.take 4) 4 = sumI t 4 := sumI_congr 4 fun i hi => by rw [List.getD_eq_getElem?_getD, List.getD_eq_getElem?_getD, List.getElem?_take, if_pos hi]
  have hpt2 : ∀ i, i < 4 → 0 ≤ (t.take 4).getD i 0 ∧ (t.take 4).getD i 0 ≤ 255 := fun i hi => by
    rw [List.getD_eq_getElem?_getD, List.getElem?_take, if_pos hi, ← List.getD_eq_getElem?_getD]; exact hpt i hi
  have E : sumI (t.take 4 ++ l) 8 = sumI t 4 + sumI l 4 := by
    have h := sumI_append (t.take 4) l
    rw [← HLN.out, hl, e1] at h
    exact h
  have hp : ∀ i, i < 8 → 0 ≤ (t.take 4 ++ l).getD i 0 ∧ (t.take 4 ++ l).getD i 0 ≤ 255 := fun i hi => by
    by_cases h8 : i < 4
    · rw [List.getD_eq_getElem?_getD, List.getElem?_append_left (by rw [← HLN.out]; exact h8), ← List.getD_eq_getElem?_getD]; exact hpt2 i h8
    · rw [List.getD_eq_getElem?_getD, List.getElem?_append_right (by rw [← HLN.out]; omega), ← HLN.out, ← List.getD_eq_getElem?_getD]; exact hpl (i - 4) (by omega)
  have hlen : (t.take 4 ++ l).length = 8 := by rw [List.length_append, ← HLN.out, hl]
  rw [← E]
  obtain ⟨L, hL⟩ : ∃ L, L = (t.take 4 ++ l) := ⟨_, rfl⟩
  rw [← hL] at hp hlen ⊢
  have HS := Lib.hid fun k (hk : k ≤ 8) => sumI_pix (l := L) k fun i hi => hp i (by omega)
  have HP := Lib.hid hp; have HL := Lib.hid hL; have HE := Lib.hid hlen
  clear hs1 hs2 e1 hpt2 hp hlen hL E
  clear htc hlc ht hl hpt hpl
  go_enter Try.func19, Try.ntmps19
  go_wp2_with fail
  refine (NK.out _ (I1.out _ BW.out) (I2.out _ BW.out)).mono ?_
  rintro e w1 ⟨rfl, hb1⟩
  have B1 := Lib.hid (below_up BW.out hb1 BW.out.size)
  have K1 := Lib.hid (cell_kept HK.out hb1)
  obtain ⟨c0, c1, c2, c3, c4⟩ := cells5 K1.out
  clear hb1
  have NI := Lib.hid (World.ownsRow_nil w1 w1.heap.size 3 1)
  go_wp2_with (first
    | (at_builtin; refine append_ints_at rfl (.tmp 16) (.tmp 20) 24 rfl w1.heap.size i0 Try.underlying24 hi hz0 hz1 hz2 _ _ [] rfl NI.out _ _ _ (t.take 4) HLN.out rfl _ (I3.out _ B1.out) (by rw [← HLN.out]; decide) (by omega) (Nat.le_refl _) ?_; intro v' w2 hown' hgr hvb; have B2 := Lib.hid (B1.out.grown hgr B1.out.size fun k hk => Nat.le_trans B1.out.size (World.ownsRow.lt NI.out k hk).1); have K2 := Lib.hid ((hgr.block w.heap.size (heap_lt K1.out) (fun ee => by have h1 := (World.ownsRow.lt NI.out _ ee.symm).1; have h2 := heap_lt K1.out; omega)).trans K1.out); have SZ2 := Lib.hid (Nat.le_trans (Nat.le_refl _) hgr.size); obtain ⟨A2, cc2, rfl⟩ := own_shape hown'; have O2 := Lib.hid hown'; clear hown' hgr hvb c0 c1 c2 c3 c4; obtain ⟨c0, c1, c2, c3, c4⟩ := cells5 K2.out)
    | (at_builtin; refine append_ints_at rfl (.tmp 24) (.tmp 26) 24 rfl w1.heap.size i0 Try.underlying24 hi hz0 hz1 hz2 _ _ (t.take 4) rfl O2.out _ _ _ l HLL.out.symm rfl _ (I2.out _ B2.out) (by rw [← HLL.out.symm]; decide) (by omega) SZ2.out ?_; intro v' w3 hown' hgr hvb; have B3 := Lib.hid (B2.out.grown hgr B2.out.size fun k hk => Nat.le_trans B1.out.size (World.ownsRow.lt O2.out k hk).1); have K3 := Lib.hid ((hgr.block w.heap.size (heap_lt K2.out) (fun ee => by have h1 := (World.ownsRow.lt O2.out _ ee.symm).1; have h2 := heap_lt K1.out; omega)).trans K2.out); have SZ3 := Lib.hid (Nat.le_trans SZ2.out hgr.size); obtain ⟨A3, cc3, rfl⟩ := own_shape hown'; have O3 := Lib.hid hown'; clear hown' hgr hvb c0 c1 c2 c3 c4; obtain ⟨c0, c1, c2, c3, c4⟩ := cells5 K3.out))
  have hO : w3.ownsRow w1.heap.size 3 1 (.slice A3 8 cc3) 8 (ivs L) := by
    have h : w3.ownsRow w1.heap.size 3 1 (.slice A3 8 cc3) 8 (ivs (t.take 4 ++ l)) := O3.out
    rw [← HL.out] at h
    exact h
  have OX : Hid (OwnI w3 w1.heap.size A3 cc3 L) := Lib.hid (by unfold OwnI; rw [HE.out]; exact hO)
  have IX := Lib.hid (OX.out.ints (by rw [HE.out]; decide))
  clear hO c0 c1 c2 c3 c4 OX
  go_loop [7, 9, 36] (fun s x i => ∃ j : Nat, j ≤ 8 ∧ i = .int .i64 j ∧ s = .int .i64 (4 + sumI L j))
    (fun _ _ i => 8 - (intOf i).toNat)
  case atStart => exact ⟨0, Nat.zero_le _, rfl, rfl⟩
  case round =>
    obtain ⟨j, hj, rfl, rfl⟩ := hrel
    by_cases hlt : j < 8
    · obtain ⟨b, off, rfl, hb, hc⟩ := IX.out.at j (by rw [HE.out]; exact hlt)
      have c1 := hc j (by rw [HE.out]; exact hlt)
      have h1 := HS.out j hj
      have h2 := HP.out j hlt
      have E : sumI L (j + 1) = sumI L j + L.getD j 0 := rfl
      obtain ⟨x, hx⟩ : ∃ x, x = L.getD j 0 := ⟨_, rfl⟩
      obtain ⟨s, hs⟩ : ∃ s, s = sumI L j := ⟨_, rfl⟩
      rw [← hx] at c1 h2 E
      rw [← hs] at h1 E ⊢
      have HE2 := Lib.hid E
      clear hc hx hs E
      go_wp2
      go_round
      case rel => exact ⟨j + 1, by omega, by go_num, by rw [HE2.out, Int.add_assoc]⟩
      case measure => simp [intOf]; omega
    · obtain rfl : j = 8 := by omega
      have h1 := HS.out 8 (Nat.le_refl _)
      obtain ⟨S, hS⟩ : ∃ s, s = sumI L 8 := ⟨_, rfl⟩
      rw [← hS] at h1 ⊢
      have HSS := Lib.hid hS; clear hS
      have hv : (4 + S).tdiv 8 = (S + 4) / 8 := by rw [Int.add_comm]; exact Int.tdiv_eq_ediv_of_nonneg (by omega)
      obtain ⟨z, hz⟩ : ∃ z, z = (S + 4) / 8 := ⟨_, rfl⟩
      have hz1 : 0 ≤ z ∧ z ≤ 100000 := by omega
      rw [← hz] at hv
      have HZ := Lib.hid hz
      clear hz
      go_wp2
      go_ret
      exact ⟨by rw [← HSS.out, ← HZ.out]; rfl, B3.out⟩

set_option maxRecDepth 100000 in
set_option maxHeartbeats 4000000 in
theorem impl_mean_8_false_false (tb toff : Nat) (cA : Nat) (lb loff : Nat) (cB : Nat) (t l : List Int) (k : Int) (ht : t.length = 16) (hl : l.length = 8) (hcA : 16 ≤ cA) (w : World) (htb : tb < w.heap.size) (hlb : lb < w.heap.size)
    (htc : ∀ j, j < t.length → w.cell? ⟨tb, toff + j, none⟩ = some (.int .i64 (t.getD j 0))) (hlc : ∀ j, j < l.length → w.cell? ⟨lb, loff + j, none⟩ = some (.int .i64 (l.getD j 0)))
    (NK : Hid (∀ w, Ints w w.heap.size (some ⟨tb, toff, none⟩) t → Ints w w.heap.size (some ⟨lb, loff, none⟩) l → Calls Try.prog 21 #[.agg #[.slice (some ⟨tb, toff, none⟩) 16 cA, .slice (some ⟨lb, loff, none⟩) 8 cB, .int .i64 k, .bool false, .bool false], .int .i64 8] w fun e w' => e = .returned (.bool true) ∧ Below w.heap.size w w'))
    (hpt : ∀ i, i < 8 → 0 ≤ t.getD i 0 ∧ t.getD i 0 ≤ 255) (hpl : ∀ i, i < 8 → 0 ≤ l.getD i 0 ∧ l.getD i 0 ≤ 255) :
    Calls Try.prog 19 #[.agg #[.slice (some ⟨tb, toff, none⟩) 16 cA, .slice (some ⟨lb, loff, none⟩) 8 cB, .int .i64 k, .bool false, .bool false], .int .i64 8] w fun e w' => e = .returned (.int .i64 128) ∧ Below w.heap.size w w' := by
  obtain ⟨i0, hi, hz0, hz1, hz2⟩ := info_parts Try.iinfo
  have hcA1 : (8 : Int) ≤ (cA : Int) := by omega
  have hcA2 : 8 ≤ cA := by omega
  have HK := Lib.hid (heap_alloc_new w (.cells #[.slice (some ⟨tb, toff, none⟩) 16 cA, .slice (some ⟨lb, loff, none⟩) 8 cB, .int .i64 k, .bool false, .bool false] 26))
  have BW := Lib.hid (below_new w (.cells #[.slice (some ⟨tb, toff, none⟩) 16 cA, .slice (some ⟨lb, loff, none⟩) 8 cB, .int .i64 k, .bool false, .bool false] 26))
  have HSZ : Hid ((w.alloc (.cells #[.slice (some ⟨tb, toff, none⟩) 16 cA, .slice (some ⟨lb, loff, none⟩) 8 cB, .int .i64 k, .bool false, .bool false] 26)).heap.size = w.heap.size + 1) := Lib.hid (by simp)
  have I1 := Lib.hid fun wr (h : Below w.heap.size w wr) => (⟨by omega, .inr ⟨tb, toff, rfl, Nat.lt_of_lt_of_le htb h.size, fun j hj => by rw [h.cell (p := ⟨tb, toff + j, none⟩) htb]; exact htc j hj⟩⟩ : Ints wr wr.heap.size (some ⟨tb, toff, none⟩) t)
  have I2 := Lib.hid fun wr (h : Below w.heap.size w wr) => (⟨by omega, .inr ⟨lb, loff, rfl, Nat.lt_of_lt_of_le hlb h.size, fun j hj => by rw [h.cell (p := ⟨lb, loff + j, none⟩) hlb]; exact hlc j hj⟩⟩ : Ints wr wr.heap.size (some ⟨lb, loff, none⟩) l)
  have I3 := Lib.hid fun wr (h : Below w.heap.size w wr) => ints_take (g := wr.heap.size) (b := tb) (off := toff) (l := t) (n := 8) (by omega) (by decide) (Nat.lt_of_lt_of_le htb h.size) (fun j hj => by rw [h.cell (p := ⟨tb, toff + j, none⟩) htb]; exact htc j hj)
  have HLN : Hid (8 = (t.take 8).length) := Lib.hid (by rw [List.length_take, ht]; rfl)
  have HTL := Lib.hid ht; have HLL := Lib.hid hl
  clear htc hlc ht hl hpt hpl
  go_enter Try.func19, Try.ntmps19
  go_wp2_with fail
  refine (NK.out _ (I1.out _ BW.out) (I2.out _ BW.out)).mono ?_
  rintro e w1 ⟨rfl, hb1⟩
  have B1 := Lib.hid (below_up BW.out hb1 BW.out.size)
  have K1 := Lib.hid (cell_kept HK.out hb1)
  obtain ⟨c0, c1, c2, c3, c4⟩ := cells5 K1.out
  clear hb1
  have NI := Lib.hid (World.ownsRow_nil w1 w1.heap.size 3 1)
  go_wp2
  go_ret
  exact ⟨rfl, B1.out⟩

set_option maxRecDepth 100000 in
set_option maxHeartbeats 4000000 in
theorem impl_mean_8_false_true (tb toff : Nat) (cA : Nat) (lb loff : Nat) (cB : Nat) (t l : List Int) (k : Int) (ht : t.length = 16) (hl : l.length = 8) (hcA : 16 ≤ cA) (w : World) (htb : tb < w.heap.size) (hlb : lb < w.heap.size)
    (htc : ∀ j, j < t.length → w.cell? ⟨tb, toff + j, none⟩ = some (.int .i64 (t.getD j 0))) (hlc : ∀ j, j < l.length → w.cell? ⟨lb, loff + j, none⟩ = some (.int .i64 (l.getD j 0)))
    (NK : Hid (∀ w, Ints w w.heap.size (some ⟨tb, toff, none⟩) t → Ints w w.heap.size (some ⟨lb, loff, none⟩) l → Calls Try.prog 21 #[.agg #[.slice (some ⟨tb, toff, none⟩) 16 cA, .slice (some ⟨lb, loff, none⟩) 8 cB, .int .i64 k, .bool false, .bool true], .int .i64 8] w fun e w' => e = .returned (.bool true) ∧ Below w.heap.size w w'))
    (hpt : ∀ i, i < 8 → 0 ≤ t.getD i 0 ∧ t.getD i 0 ≤ 255) (hpl : ∀ i, i < 8 → 0 ≤ l.getD i 0 ∧ l.getD i 0 ≤ 255) :
    Calls Try.prog 19 #[.agg #[.slice (some ⟨tb, toff, none⟩) 16 cA, .slice (some ⟨lb, loff, none⟩) 8 cB, .int .i64 k, .bool false, .bool true], .int .i64 8] w fun e w' => e = .returned (.int .i64 ((sumI l 8 + 4) / 8)) ∧ Below w.heap.size w w' := by
  obtain ⟨i0, hi, hz0, hz1, hz2⟩ := info_parts Try.iinfo
  have hcA1 : (8 : Int) ≤ (cA : Int) := by omega
  have hcA2 : 8 ≤ cA := by omega
  have HK := Lib.hid (heap_alloc_new w (.cells #[.slice (some ⟨tb, toff, none⟩) 16 cA, .slice (some ⟨lb, loff, none⟩) 8 cB, .int .i64 k, .bool false, .bool true] 26))
  have BW := Lib.hid (below_new w (.cells #[.slice (some ⟨tb, toff, none⟩) 16 cA, .slice (some ⟨lb, loff, none⟩) 8 cB, .int .i64 k, .bool false, .bool true] 26))
  have HSZ : Hid ((w.alloc (.cells #[.slice (some ⟨tb, toff, none⟩) 16 cA, .slice (some ⟨lb, loff, none⟩) 8 cB, .int .i64 k, .bool false, .bool true] 26)).heap.size = w.heap.size + 1) := Lib.hid (by simp)
  have I1 := Lib.hid fun wr (h : Below w.heap.size w wr) => (⟨by omega, .inr ⟨tb, toff, rfl, Nat.lt_of_lt_of_le htb h.size, fun j hj => by rw [h.cell (p := ⟨tb, toff + j, none⟩) htb]; exact htc j hj⟩⟩ : Ints wr wr.heap.size (some ⟨tb, toff, none⟩) t)
  have I2 := Lib.hid fun wr (h : Below w.heap.size w wr) => (⟨by omega, .inr ⟨lb, loff, rfl, Nat.lt_of_lt_of_le hlb h.size, fun j hj => by rw [h.cell (p := ⟨lb, loff + j, none⟩) hlb]; exact hlc j hj⟩⟩ : Ints wr wr.heap.size (some ⟨lb, loff, none⟩) l)
  have I3 := Lib.hid fun wr (h : Below w.heap.size w wr) => ints_take (g := wr.heap.size) (b := tb) (off := toff) (l := t) (n := 8) (by omega) (by decide) (Nat.lt_of_lt_of_le htb h.size) (fun j hj => by rw [h.cell (p := ⟨tb, toff + j, none⟩) htb]; exact htc j hj)
  have HLN : Hid (8 = (t.take 8).length) := Lib.hid (by rw [List.length_take, ht]; rfl)
  have HTL := Lib.hid ht; have HLL := Lib.hid hl
  have hs1 := sumI_pix (l := t) 8 hpt
  have hs2 := sumI_pix (l := l) 8 hpl
  have e1 : sumI (t.take 8) 8 = sumI t 8 := sumI_congr 8 fun i hi => by rw [List.getD_eq_getElem?_getD, List.getD_eq_getElem?_getD, List.getElem?_take, if_pos hi]
  have hpt2 : ∀ i, i < 8 → 0 ≤ (t.take 8).getD i 0 ∧ (t.take 8).getD i 0 ≤ 255 := fun i hi => by
    rw [List.getD_eq_getElem?_getD, List.getElem?_take, if_pos hi, ← List.getD_eq_getElem?_getD]; exact hpt i hi
  have hp := hpl
  have hlen : l.length = 8 := hl
  obtain ⟨L, hL⟩ : ∃ L, L = l := ⟨_, rfl⟩
  rw [← hL] at hp hlen ⊢
  have HS := Lib.hid fun k (hk : k ≤ 8) => sumI_pix (l := L) k fun i hi => hp i (by omega)
  have HP := Lib.hid hp; have HL := Lib.hid hL; have HE := Lib.hid hlen
  clear hs1 hs2 e1 hpt2 hp hlen hL
  clear htc hlc ht hl hpt hpl
  go_enter Try.func19, Try.ntmps19
  go_wp2_with fail
  refine (NK.out _ (I1.out _ BW.out) (I2.out _ BW.out)).mono ?_
  rintro e w1 ⟨rfl, hb1⟩
  have B1 := Lib.hid (below_up BW.out hb1 BW.out.size)
  have K1 := Lib.hid (cell_kept HK.out hb1)
  obtain ⟨c0, c1, c2, c3, c4⟩ := cells5 K1.out
  clear hb1
  have NI := Lib.hid (World.ownsRow_nil w1 w1.heap.size 3 1)
  go_wp2_with (first
    | (at_builtin; refine append_ints_at rfl (.tmp 24) (.tmp 26) 24 rfl w1.heap.size i0 Try.underlying24 hi hz0 hz1 hz2 _ _ [] rfl NI.out _ _ _ l HLL.out.symm rfl _ (I2.out _ B1.out) (by rw [← HLL.out.symm]; decide) (by omega) (Nat.le_refl _) ?_; intro v' w2 hown' hgr hvb; have B2 := Lib.hid (B1.out.grown hgr B1.out.size fun k hk => Nat.le_trans B1.out.size (World.ownsRow.lt NI.out k hk).1); have K2 := Lib.hid ((hgr.block w.heap.size (heap_lt K1.out) (fun ee => by have h1 := (World.ownsRow.lt NI.out _ ee.symm).1; have h2 := heap_lt K1.out; omega)).trans K1.out); have SZ2 := Lib.hid (Nat.le_trans (Nat.le_refl _) hgr.size); obtain ⟨A2, cc2, rfl⟩ := own_shape hown'; have O2 := Lib.hid hown'; clear hown' hgr hvb c0 c1 c2 c3 c4; obtain ⟨c0, c1, c2, c3, c4⟩ := cells5 K2.out))
  have hO : w2.ownsRow w1.heap.size 3 1 (.slice A2 8 cc2) 8 (ivs L) := by
    have h : w2.ownsRow w1.heap.size 3 1 (.slice A2 8 cc2) 8 (ivs l) := O2.out
    rw [← HL.out] at h
    exact h
  have OX : Hid (OwnI w2 w1.heap.size A2 cc2 L) := Lib.hid (by unfold OwnI; rw [HE.out]; exact hO)
  have IX := Lib.hid (OX.out.ints (by rw [HE.out]; decide))
  clear hO c0 c1 c2 c3 c4 OX
  go_loop [7, 9, 36] (fun s x i => ∃ j : Nat, j ≤ 8 ∧ i = .int .i64 j ∧ s = .int .i64 (4 + sumI L j))
    (fun _ _ i => 8 - (intOf i).toNat)
  case atStart => exact ⟨0, Nat.zero_le _, rfl, rfl⟩
  case round =>
    obtain ⟨j, hj, rfl, rfl⟩ := hrel
    by_cases hlt : j < 8
    · obtain ⟨b, off, rfl, hb, hc⟩ := IX.out.at j (by rw [HE.out]; exact hlt)
      have c1 := hc j (by rw [HE.out]; exact hlt)
      have h1 := HS.out j hj
      have h2 := HP.out j hlt
      have E : sumI L (j + 1) = sumI L j + L.getD j 0 := rfl
      obtain ⟨x, hx⟩ : ∃ x, x = L.getD j 0 := ⟨_, rfl⟩
      obtain ⟨s, hs⟩ : ∃ s, s = sumI L j := ⟨_, rfl⟩
      rw [← hx] at c1 h2 E
      rw [← hs] at h1 E ⊢
      have HE2 := Lib.hid E
      clear hc hx hs E
      go_wp2
      go_round
      case rel => exact ⟨j + 1, by omega, by go_num, by rw [HE2.out, Int.add_assoc]⟩
      case measure => simp [intOf]; omega
    · obtain rfl : j = 8 := by omega
      have h1 := HS.out 8 (Nat.le_refl _)
      obtain ⟨S, hS⟩ : ∃ s, s = sumI L 8 := ⟨_, rfl⟩
      rw [← hS] at h1 ⊢
      have HSS := Lib.hid hS; clear hS
      have hv : (4 + S).tdiv 8 = (S + 4) / 8 := by rw [Int.add_comm]; exact Int.tdiv_eq_ediv_of_nonneg (by omega)
      obtain ⟨z, hz⟩ : ∃ z, z = (S + 4) / 8 := ⟨_, rfl⟩
      have hz1 : 0 ≤ z ∧ z ≤ 100000 := by omega
      rw [← hz] at hv
      have HZ := Lib.hid hz
      clear hz
      go_wp2
      go_ret
      exact ⟨by rw [← HSS.out, ← HZ.out]; rfl, B2.out⟩

set_option maxRecDepth 100000 in
set_option maxHeartbeats 4000000 in
theorem impl_mean_8_true_false (tb toff : Nat) (cA : Nat) (lb loff : Nat) (cB : Nat) (t l : List Int) (k : Int) (ht : t.length = 16) (hl : l.length = 8) (hcA : 16 ≤ cA) (w : World) (htb : tb < w.heap.size) (hlb : lb < w.heap.size)
    (htc : ∀ j, j < t.length → w.cell? ⟨tb, toff + j, none⟩ = some (.int .i64 (t.getD j 0))) (hlc : ∀ j, j < l.length → w.cell? ⟨lb, loff + j, none⟩ = some (.int .i64 (l.getD j 0)))
    (NK : Hid (∀ w, Ints w w.heap.size (some ⟨tb, toff, none⟩) t → Ints w w.heap.size (some ⟨lb, loff, none⟩) l → Calls Try.prog 21 #[.agg #[.slice (some ⟨tb, toff, none⟩) 16 cA, .slice (some ⟨lb, loff, none⟩) 8 cB, .int .i64 k, .bool true, .bool false], .int .i64 8] w fun e w' => e = .returned (.bool true) ∧ Below w.heap.size w w'))
    (hpt : ∀ i, i < 8 → 0 ≤ t.getD i 0 ∧ t.getD i 0 ≤ 255) (hpl : ∀ i, i < 8 → 0 ≤ l.getD i 0 ∧ l.getD i 0 ≤ 255) :
    Calls Try.prog 19 #[.agg #[.slice (some ⟨tb, toff, none⟩) 16 cA, .slice (some ⟨lb, loff, none⟩) 8 cB, .int .i64 k, .bool true, .bool false], .int .i64 8] w fun e w' => e = .returned (.int .i64 ((sumI t 8 + 4) / 8)) ∧ Below w.heap.size w w' := by
  obtain ⟨i0, hi, hz0, hz1, hz2⟩ := info_parts Try.iinfo
  have hcA1 : (8 : Int) ≤ (cA : Int) := by omega
  have hcA2 : 8 ≤ cA := by omega
  have HK := Lib.hid (heap_alloc_new w (.cells #[.slice (some ⟨tb, toff, none⟩) 16 cA, .slice (some ⟨lb, loff, none⟩) 8 cB, .int .i64 k, .bool true, .bool false] 26))
  have BW := Lib.hid (below_new w (.cells #[.slice (some ⟨tb, toff, none⟩) 16 cA, .slice (some ⟨lb, loff, none⟩) 8 cB, .int .i64 k, .bool true, .bool false] 26))
  have HSZ : Hid ((w.alloc (.cells #[.slice (some ⟨tb, toff, none⟩) 16 cA, .slice (some ⟨lb, loff, none⟩) 8 cB, .int .i64 k, .bool true, .bool false] 26)).heap.size = w.heap.size + 1) := Lib.hid (by simp)
  have I1 := Lib.hid fun wr (h : Below w.heap.size w wr) => (⟨by omega, .inr ⟨tb, toff, rfl, Nat.lt_of_lt_of_le htb h.size, fun j hj => by rw [h.cell (p := ⟨tb, toff + j, none⟩) htb]; exact htc j hj⟩⟩ : Ints wr wr.heap.size (some ⟨tb, toff, none⟩) t)
  have I2 := Lib.hid fun wr (h : Below w.heap.size w wr) => (⟨by omega, .inr ⟨lb, loff, rfl, Nat.lt_of_lt_of_le hlb h.size, fun j hj => by rw [h.cell (p := ⟨lb, loff + j, none⟩) hlb]; exact hlc j hj⟩⟩ : Ints wr wr.heap.size (some ⟨lb, loff, none⟩) l)
  have I3 := Lib.hid fun wr (h : Below w.heap.size w wr) => ints_take (g := wr.heap.size) (b := tb) (off := toff) (l := t) (n := 8) (by omega) (by decide) (Nat.lt_of_lt_of_le htb h.size) (fun j hj => by rw [h.cell (p := ⟨tb, toff + j, none⟩) htb]; exact htc j hj)
  have HLN : Hid (8 = (t.take 8).length) := Lib.hid (by rw [List.length_take, ht]; rfl)
  have HTL := Lib.hid ht; have HLL := Lib.hid hl
  have hs1 := sumI_pix (l := t) 8 hpt
  have hs2 := sumI_pix (l := l) 8 hpl
  have e1 : sumI (t.take 8) 8 = sumI t 8 := sumI_congr 8 fun i hi => by rw [List.getD_eq_getElem?_getD, List.getD_eq_getElem?_getD, List.getElem?_take, if_pos hi]
  have hpt2 : ∀ i, i < 8 → 0 ≤ (t.take 8).getD i 0 ∧ (t.take 8).getD i 0 ≤ 255 := fun i hi => by
    rw [List.getD_eq_getElem?_getD, List.getElem?_take, if_pos hi, ← List.getD_eq_getElem?_getD]; exact hpt i hi
  have hp := hpt2
  have hlen : (t.take 8).length = 8 := HLN.out.symm
  rw [← e1]
  obtain ⟨L, hL⟩ : ∃ L, L = t.take 8 := ⟨_, rfl⟩
  rw [← hL] at hp hlen ⊢
  have HS := Lib.hid fun k (hk : k ≤ 8) => sumI_pix (l := L) k fun i hi => hp i (by omega)
  have HP := Lib.hid hp; have HL := Lib.hid hL; have HE := Lib.hid hlen
  clear hs1 hs2 e1 hpt2 hp hlen hL
  clear htc hlc ht hl hpt hpl
  go_enter Try.func19, Try.ntmps19
  go_wp2_with fail
  refine (NK.out _ (I1.out _ BW.out) (I2.out _ BW.out)).mono ?_
  rintro e w1 ⟨rfl, hb1⟩
  have B1 := Lib.hid (below_up BW.out hb1 BW.out.size)
  have K1 := Lib.hid (cell_kept HK.out hb1)
  obtain ⟨c0, c1, c2, c3, c4⟩ := cells5 K1.out
  clear hb1
  have NI := Lib.hid (World.ownsRow_nil w1 w1.heap.size 3 1)
  go_wp2_with (first
    | (at_builtin; refine append_ints_at rfl (.tmp 16) (.tmp 20) 24 rfl w1.heap.size i0 Try.underlying24 hi hz0 hz1 hz2 _ _ [] rfl NI.out _ _ _ (t.take 8) HLN.out rfl _ (I3.out _ B1.out) (by rw [← HLN.out]; decide) (by omega) (Nat.le_refl _) ?_; intro v' w2 hown' hgr hvb; have B2 := Lib.hid (B1.out.grown hgr B1.out.size fun k hk => Nat.le_trans B1.out.size (World.ownsRow.lt NI.out k hk).1); have K2 := Lib.hid ((hgr.block w.heap.size (heap_lt K1.out) (fun ee => by have h1 := (World.ownsRow.lt NI.out _ ee.symm).1; have h2 := heap_lt K1.out; omega)).trans K1.out); have SZ2 := Lib.hid (Nat.le_trans (Nat.le_refl _) hgr.size); obtain ⟨A2, cc2, rfl⟩ := own_shape hown'; have O2 := Lib.hid hown'; clear hown' hgr hvb c0 c1 c2 c3 c4; obtain ⟨c0, c1, c2, c3, c4⟩ := cells5 K2.out))
  have hO : w2.ownsRow w1.heap.size 3 1 (.slice A2 8 cc2) 8 (ivs L) := by
    have h : w2.ownsRow w1.heap.size 3 1 (.slice A2 8 cc2) 8 (ivs (t.take 8)) := O2.out
    rw [← HL.out] at h
    exact h
  have OX : Hid (OwnI w2 w1.heap.size A2 cc2 L) := Lib.hid (by unfold OwnI; rw [HE.out]; exact hO)
  have IX := Lib.hid (OX.out.ints (by rw [HE.out]; decide))
  clear hO c0 c1 c2 c3 c4 OX
  go_loop [7, 9, 36] (fun s x i => ∃ j : Nat, j ≤ 8 ∧ i = .int .i64 j ∧ s = .int .i64 (4 + sumI L j))
    (fun _ _ i => 8 - (intOf i).toNat)
  case atStart => exact ⟨0, Nat.zero_le _, rfl, rfl⟩
  case round =>
    obtain ⟨j, hj, rfl, rfl⟩ := hrel
    by_cases hlt : j < 8
    · obtain ⟨b, off, rfl, hb, hc⟩ := IX.out.at j (by rw [HE.out]; exact hlt)
      have c1 := hc j (by rw [HE.out]; exact hlt)
      have h1 := HS.out j hj
      have h2 := HP.out j hlt
      have E : sumI L (j + 1) = sumI L j + L.getD j 0 := rfl
      obtain ⟨x, hx⟩ : ∃ x, x = L.getD j 0 := ⟨_, rfl⟩
      obtain ⟨s, hs⟩ : ∃ s, s = sumI L j := ⟨_, rfl⟩
      rw [← hx] at c1 h2 E
      rw [← hs] at h1 E ⊢
      have HE2 := Lib.hid E
      clear hc hx hs E
      go_wp2
      go_round
      case rel => exact ⟨j + 1, by omega, by go_num, by rw [HE2.out, Int.add_assoc]⟩
      case measure => simp [intOf]; omega
    · obtain rfl : j = 8 := by omega
      have h1 := HS.out 8 (Nat.le_refl _)
      obtain ⟨S, hS⟩ : ∃ s, s = sumI L 8 := ⟨_, rfl⟩
      rw [← hS] at h1 ⊢
      have HSS := Lib.hid hS; clear hS
      have hv : (4 + S).tdiv 8 = (S + 4) / 8 := by rw [Int.add_comm]; exact Int.tdiv_eq_ediv_of_nonneg (by omega)
      obtain ⟨z, hz⟩ : ∃ z, z = (S + 4) / 8 := ⟨_, rfl⟩
      have hz1 : 0 ≤ z ∧ z ≤ 100000 := by omega
      rw [← hz] at hv
      have HZ := Lib.hid hz
      clear hz
      go_wp2
      go_ret
      exact ⟨by rw [← HSS.out, ← HZ.out]; rfl, B2.out⟩

set_option maxRecDepth 100000 in
set_option maxHeartbeats 4000000 in
theorem impl_mean_8_true_true (tb toff : Nat) (cA : Nat) (lb loff : Nat) (cB : Nat) (t l : List Int) (k : Int) (ht : t.length = 16) (hl : l.length = 8) (hcA : 16 ≤ cA) (w : World) (htb : tb < w.heap.size) (hlb : lb < w.heap.size)
    (htc : ∀ j, j < t.length → w.cell? ⟨tb, toff + j, none⟩ = some (.int .i64 (t.getD j 0))) (hlc : ∀ j, j < l.length → w.cell? ⟨lb, loff + j, none⟩ = some (.int .i64 (l.getD j 0)))
    (NK : Hid (∀ w, Ints w w.heap.size (some ⟨tb, toff, none⟩) t → Ints w w.heap.size (some ⟨lb, loff, none⟩) l → Calls Try.prog 21 #[.agg #[.slice (some ⟨tb, toff, none⟩) 16 cA, .slice (some ⟨lb, loff, none⟩) 8 cB, .int .i64 k, .bool true, .bool true], .int .i64 8] w fun e w' => e = .returned (.bool true) ∧ Below w.heap.size w w'))
    (hpt : ∀ i, i < 8 → 0 ≤ t.getD i 0 ∧ t.getD i 0 ≤ 255) (hpl : ∀ i, i < 8 → 0 ≤ l.getD i 0 ∧ l.getD i 0 ≤ 255) :
    Calls Try.prog 19 #[.agg #[.slice (some ⟨tb, toff, none⟩) 16 cA, .slice (some ⟨lb, loff, none⟩) 8 cB, .int .i64 k, .bool true, .bool true], .int .i64 8] w fun e w' => e = .returned (.int .i64 ((sumI t 8 + sumI l 8 + 8) / 16)) ∧ Below w.heap.size w w' := by
  obtain ⟨i0, hi, hz0, hz1, hz2⟩ := info_parts Try.iinfo
  have hcA1 : (8 : Int) ≤ (cA : Int) := by omega
  have hcA2 : 8 ≤ cA := by omega
  have HK := Lib.hid (heap_alloc_new w (.cells #[.slice (some ⟨tb, toff, none⟩) 16 cA, .slice (some ⟨lb, loff, none⟩) 8 cB, .int .i64 k, .bool true, .bool true] 26))
  have BW := Lib.hid (below_new w (.cells #[.slice (some ⟨tb, toff, none⟩) 16 cA, .slice (some ⟨lb, loff, none⟩) 8 cB, .int .i64 k, .bool true, .bool true] 26))
  have HSZ : Hid ((w.alloc (.cells #[.slice (some ⟨tb, toff, none⟩) 16 cA, .slice (some ⟨lb, loff, none⟩) 8 cB, .int .i64 k, .bool true, .bool true] 26)).heap.size = w.heap.size + 1) := Lib.hid (by simp)
  have I1 := Lib.hid fun wr (h : Below w.heap.size w wr) => (⟨by omega, .inr ⟨tb, toff, rfl, Nat.lt_of_lt_of_le htb h.size, fun j hj => by rw [h.cell (p := ⟨tb, toff + j, none⟩) htb]; exact htc j hj⟩⟩ : Ints wr wr.heap.size (some ⟨tb, toff, none⟩) t)
  have I2 := Lib.hid fun wr (h : Below w.heap.size w wr) => (⟨by omega, .inr ⟨lb, loff, rfl, Nat.lt_of_lt_of_le hlb h.size, fun j hj => by rw [h.cell (p := ⟨lb, loff + j, none⟩) hlb]; exact hlc j hj⟩⟩ : Ints wr wr.heap.size (some ⟨lb, loff, none⟩) l)
  have I3 := Lib.hid fun wr (h : Below w.heap.size w wr) => ints_take (g := wr.heap.size) (b := tb) (off := toff) (l := t) (n := 8) (by omega) (by decide) (Nat.lt_of_lt_of_le htb h.size) (fun j hj => by rw [h.cell (p := ⟨tb, toff + j, none⟩) htb]; exact htc j hj)
  have HLN : Hid (8 = (t.take 8).length) := Lib.hid (by rw [List.length_take, ht]; rfl)
  have HTL := Lib.hid ht; have HLL := Lib.hid hl
  have hs1 := sumI_pix (l := t) 8 hpt
  have hs2 := sumI_pix (l := l) 8 hpl
  have e1 : sumI (t.take 8) 8 = sumI t 8 := sumI_congr 8 fun i hi => by rw [List.getD_eq_getElem?_getD, List.getD_eq_getElem?_getD, List.getElem?_take, if_pos hi]
  have hpt2 : ∀ i, i < 8 → 0 ≤ (t.take 8).getD i 0 ∧ (t.take 8).getD i 0 ≤ 255 := fun i hi => by
    rw [List.getD_eq_getElem?_getD, List.getElem?_take, if_pos hi, ← List.getD_eq_getElem?_getD]; exact hpt i hi
  have E : sumI (t.take 8 ++ l) 16 = sumI t 8 + sumI l 8 := by
    have h := sumI_append (t.take 8) l
    rw [← HLN.out, hl, e1] at h
    exact h
  have hp : ∀ i, i < 16 → 0 ≤ (t.take 8 ++ l).getD i 0 ∧ (t.take 8 ++ l).getD i 0 ≤ 255 := fun i hi => by
    by_cases h8 : i < 8
    · rw [List.getD_eq_getElem?_getD, List.getElem?_append_left (by rw [← HLN.out]; exact h8), ← List.getD_eq_getElem?_getD]; exact hpt2 i h8
    · rw [List.getD_eq_getElem?_getD, List.getElem?_append_right (by rw [← HLN.out]; omega), ← HLN.out, ← List.getD_eq_getElem?_getD]; exact hpl (i - 8) (by omega)
  have hlen : (t.take 8 ++ l).length = 16 := by rw [List.length_append, ← HLN.out, hl]
  rw [← E]
  obtain ⟨L, hL⟩ : ∃ L, L = (t.take 8 ++ l) := ⟨_, rfl⟩
  rw [← hL] at hp hlen ⊢
  have HS := Lib.hid fun k (hk : k ≤ 16) => sumI_pix (l := L) k fun i hi => hp i (by omega)
  have HP := Lib.hid hp; have HL := Lib.hid hL; have HE := Lib.hid hlen
  clear hs1 hs2 e1 hpt2 hp hlen hL E
  clear htc hlc ht hl hpt hpl
  go_enter Try.func19, Try.ntmps19
  go_wp2_with fail
  refine (NK.out _ (I1.out _ BW.out) (I2.out _ BW.out)).mono ?_
  rintro e w1 ⟨rfl, hb1⟩
  have B1 := Lib.hid (below_up BW.out hb1 BW.out.size)
  have K1 := Lib.hid (cell_kept HK.out hb1)
  obtain ⟨c0, c1, c2, c3, c4⟩ := cells5 K1.out
  clear hb1
  have NI := Lib.hid (World.ownsRow_nil w1 w1.heap.size 3 1)
  go_wp2_with (first
    | (at_builtin; refine append_ints_at rfl (.tmp 16) (.tmp 20) 24 rfl w1.heap.size i0 Try.underlying24 hi hz0 hz1 hz2 _ _ [] rfl NI.out _ _ _ (t.take 8) HLN.out rfl _ (I3.out _ B1.out) (by rw [← HLN.out]; decide) (by omega) (Nat.le_refl _) ?_; intro v' w2 hown' hgr hvb; have B2 := Lib.hid (B1.out.grown hgr B1.out.size fun k hk => Nat.le_trans B1.out.size (World.ownsRow.lt NI.out k hk).1); have K2 := Lib.hid ((hgr.block w.heap.size (heap_lt K1.out) (fun ee => by have h1 := (World.ownsRow.lt NI.out _ ee.symm).1; have h2 := heap_lt K1.out; omega)).trans K1.out); have SZ2 := Lib.hid (Nat.le_trans (Nat.le_refl _) hgr.size); obtain ⟨A2, cc2, rfl⟩ := own_shape hown'; have O2 := Lib.hid hown'; clear hown' hgr hvb c0 c1 c2 c3 c4; obtain ⟨c0, c1, c2, c3, c4⟩ := cells5 K2.out)
    | (at_builtin; refine append_ints_at rfl (.tmp 24) (.tmp 26) 24 rfl w1.heap.size i0 Try.underlying24 hi hz0 hz1 hz2 _ _ (t.take 8) rfl O2.out _ _ _ l HLL.out.symm rfl _ (I2.out _ B2.out) (by rw [← HLL.out.symm]; decide) (by omega) SZ2.out ?_; intro v' w3 hown' hgr hvb; have B3 := Lib.hid (B2.out.grown hgr B2.out.size fun k hk => Nat.le_trans B1.out.size (World.ownsRow.lt O2.out k hk).1); have K3 := Lib.hid ((hgr.block w.heap.size (heap_lt K2.out) (fun ee => by have h1 := (World.ownsRow.lt O2.out _ ee.symm).1; have h2 := heap_lt K1.out; omega)).trans K2.out); have SZ3 := Lib.hid (Nat.le_trans SZ2.out hgr.size); obtain ⟨A3, cc3, rfl⟩ := own_shape hown'; have O3 := Lib.hid hown'; clear hown' hgr hvb c0 c1 c2 c3 c4; obtain ⟨c0, c1, c2, c3, c4⟩ := cells5 K3.out))
  have hO : w3.ownsRow w1.heap.size 3 1 (.slice A3 16 cc3) 16 (ivs L) := by
    have h : w3.ownsRow w1.heap.size 3 1 (.slice A3 16 cc3) 16 (ivs (t.take 8 ++ l)) := O3.out
    rw [← HL.out] at h
    exact h
  have OX : Hid (OwnI w3 w1.heap.size A3 cc3 L) := Lib.hid (by unfold OwnI; rw [HE.out]; exact hO)
  have IX := Lib.hid (OX.out.ints (by rw [HE.out]; decide))
  clear hO c0 c1 c2 c3 c4 OX
  go_loop [7, 9, 36] (fun s x i => ∃ j : Nat, j ≤ 16 ∧ i = .int .i64 j ∧ s = .int .i64 (8 + sumI L j))
    (fun _ _ i => 16 - (intOf i).toNat)
  case atStart => exact ⟨0, Nat.zero_le _, rfl, rfl⟩
  case round =>
    obtain ⟨j, hj, rfl, rfl⟩ := hrel
    by_cases hlt : j < 16
    · obtain ⟨b, off, rfl, hb, hc⟩ := IX.out.at j (by rw [HE.out]; exact hlt)
      have c1 := hc j (by rw [HE.out]; exact hlt)
      have h1 := HS.out j hj
      have h2 := HP.out j hlt
      have E : sumI L (j + 1) = sumI L j + L.getD j 0 := rfl
      obtain ⟨x, hx⟩ : ∃ x, x = L.getD j 0 := ⟨_, rfl⟩
      obtain ⟨s, hs⟩ : ∃ s, s = sumI L j := ⟨_, rfl⟩
      rw [← hx] at c1 h2 E
      rw [← hs] at h1 E ⊢
      have HE2 := Lib.hid E
      clear hc hx hs E
      go_wp2
      go_round
      case rel => exact ⟨j + 1, by omega, by go_num, by rw [HE2.out, Int.add_assoc]⟩
      case measure => simp [intOf]; omega
    · obtain rfl : j = 16 := by omega
      have h1 := HS.out 16 (Nat.le_refl _)
      obtain ⟨S, hS⟩ : ∃ s, s = sumI L 16 := ⟨_, rfl⟩
      rw [← hS] at h1 ⊢
      have HSS := Lib.hid hS; clear hS
      have hv : (8 + S).tdiv 16 = (S + 8) / 16 := by rw [Int.add_comm]; exact Int.tdiv_eq_ediv_of_nonneg (by omega)
      obtain ⟨z, hz⟩ : ∃ z, z = (S + 8) / 16 := ⟨_, rfl⟩
      have hz1 : 0 ≤ z ∧ z ≤ 100000 := by omega
      rw [← hz] at hv
      have HZ := Lib.hid hz
      clear hz
      go_wp2
      go_ret
      exact ⟨by rw [← HSS.out, ← HZ.out]; rfl, B3.out⟩

set_option maxRecDepth 100000 in
set_option maxHeartbeats 1000000 in
theorem impl_mean_any (A : Option Addr) (cA : Nat) (B : Option Addr) (cB : Nat) (t l : List Int) (k : Int) (b1 b2 : Bool) (n : Int) (w : World) (hT : Ints w w.heap.size A t) (hL : Ints w w.heap.size B l) (hcA : t.length ≤ cA) :
    Calls Try.prog 19 #[.agg #[.slice A t.length cA, .slice B l.length cB, .int .i64 k, .bool b1, .bool b2], .int .i64 n] w fun e w' => e = .returned (.int .i64 (meanV t l k b1 b2 n)) ∧ Below w.heap.size w w' := by
  have NK := Lib.hid fun w h1 h2 => impl_nbok_any A cA B cB t l k b1 b2 n w h1 h2
  cases hok : nbOk t l k n with
  | true =>
    rw [hok] at NK
    unfold meanV
    rw [if_pos hok]
    obtain ⟨m, rfl, hm, ht, hl, hpt, hpl, _⟩ := nbOk_side hok
    obtain ⟨tb, toff, rfl, htb, htc⟩ := hT.at 0 (by omega)
    obtain ⟨lb, loff, rfl, hlb, hlc⟩ := hL.at 0 (by omega)
    rw [ht, hl] at NK ⊢
    have hpt' : ∀ i, i < m → 0 ≤ t.getD i 0 ∧ t.getD i 0 ≤ 255 := fun i hi => hpt i (by omega)
    rcases hm with rfl | rfl
    · cases b1 <;> cases b2
      · exact impl_mean_4_false_false tb toff cA lb loff cB t l k ht hl (by omega) w htb hlb htc hlc NK hpt' hpl
      · exact impl_mean_4_false_true tb toff cA lb loff cB t l k ht hl (by omega) w htb hlb htc hlc NK hpt' hpl
      · exact impl_mean_4_true_false tb toff cA lb loff cB t l k ht hl (by omega) w htb hlb htc hlc NK hpt' hpl
      · exact impl_mean_4_true_true tb toff cA lb loff cB t l k ht hl (by omega) w htb hlb htc hlc NK hpt' hpl
    · cases b1 <;> cases b2
      · exact impl_mean_8_false_false tb toff cA lb loff cB t l k ht hl (by omega) w htb hlb htc hlc NK hpt' hpl
      · exact impl_mean_8_false_true tb toff cA lb loff cB t l k ht hl (by omega) w htb hlb htc hlc NK hpt' hpl
      · exact impl_mean_8_true_false tb toff cA lb loff cB t l k ht hl (by omega) w htb hlb htc hlc NK hpt' hpl
      · exact impl_mean_8_true_true tb toff cA lb loff cB t l k ht hl (by omega) w htb hlb htc hlc NK hpt' hpl
  | false =>
    rw [hok] at NK
    have e1 : meanV t l k b1 b2 n = 0 := by unfold meanV; rw [if_neg (by rw [hok]; simp)]
    rw [e1]
    clear e1
    have b2' := below_new w (.cells #[.slice A t.length cA, .slice B l.length cB, .int .i64 k, .bool b1, .bool b2] 26)
    have B0 := Lib.hid b2'
    have HT := Lib.hid ((hT.below b2' (Nat.le_refl _)).mono b2'.size)
    have HL := Lib.hid ((hL.below b2' (Nat.le_refl _)).mono b2'.size)
    have hnt := hT.1; have hnl := hL.1
    clear hok hT hL b2' hcA
    go_enter Try.func19, Try.ntmps19
    go_wp2_with fail
    refine (NK.out _ HT.out HL.out).mono ?_
    rintro e w1 ⟨rfl, hb1⟩
    have B1 := Lib.hid (below_up B0.out hb1 B0.out.size)
    have O1 := Lib.hid (World.ownsRow_nil w1 w.heap.size 3 1)
    clear hb1
    go_wp2
    go_ret
    exact ⟨rfl, B1.out⟩
end Go.Proofs.Ytjgbenhjafgimaa
