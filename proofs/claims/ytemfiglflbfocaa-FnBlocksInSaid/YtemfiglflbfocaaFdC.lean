/-
  Contracts of chapter 18's draw of a place in a frame. Condition: the input is no longer than 1048576 bytes.
-/
import Derived.Test.YtemfiglflbfocaaFdB
namespace Go.Proofs.Ytemfiglflbfocaa
open Go.RowKit
set_option linter.unusedVariables false

theorem max_one (q : Nat) : ∃ m : Nat, (max (1 : Int) (q : Int) = (m : Int)) ∧ ((if (1 : Int) < (q : Int) then (q : Int) else 1) = (m : Int)) ∧ 1 ≤ m ∧ m ≤ q + 1 := by
  by_cases h : 1 < q
  · exact ⟨q, by omega, by rw [if_pos (by omega)], by omega, by omega⟩
  · exact ⟨1, by omega, by rw [if_neg (by omega)]; rfl, by omega, by omega⟩
set_option maxRecDepth 100000 in
set_option maxHeartbeats 8000000 in
theorem l18spot_ex (A : Option Addr) (cap : Nat) (zs : List Int) (w0 w : World) (g : Nat) (h : Dw g A cap zs w0 w) :
    Calls Try.prog 45 #[.pointer (some ⟨g, 0, none⟩)] w fun e w' => ∃ (a b : Int) (l : List Int) (TA : Option Addr) (c : Nat) (x y n : Int), e = .returned (.tuple #[.agg #[.int .i64 a, .int .i64 b, .slice TA l.length c], .int .i64 x, .int .i64 y, .int .i64 n]) ∧ (0 ≤ a ∧ a ≤ 40) ∧ (0 ≤ b ∧ b ≤ 40) ∧ (0 ≤ n ∧ n ≤ 16) ∧ (-1000 ≤ x ∧ x ≤ 1000) ∧ (-1000 ≤ y ∧ y ≤ 1000) ∧ RowOff w.heap.size w' TA l ∧ l.length ≤ c ∧ (0 < l.length ∧ l.length ≤ 384) ∧ Dw g A cap zs w0 w' := by
  have hgw : g < w.heap.size := h.lt
  have hs0 : w0.heap.size ≤ w.heap.size := h.size
  have BC := Lib.hid below_ex; have PC := Lib.hid pick_ex
  have FR := Lib.hid fun w0 w g h => l18any_ex A cap zs w0 w g h
  have D0 := Lib.hid (h.alloc (.cells #[.int .i64 0, .int .i64 0, .slice none 0 0] 26))
  have R0 := Lib.hid (heap_alloc_new w (.cells #[.int .i64 0, .int .i64 0, .slice none 0 0] 26))
  have P3 : Hid (∀ (w0 w : World) (gl : Nat), Dw g A cap zs w0 w → w.heap[gl]? = some (.cells #[.int .i64 4, .int .i64 4, .int .i64 8] 3 (0, 0)) → gl ≠ g → Calls Try.prog 67 #[.pointer (some ⟨g, 0, none⟩), .slice (some ⟨gl, 0, none⟩) 3 3] w fun e w' => ∃ x : Int, e = .returned (.int .i64 x) ∧ x ∈ ([4, 4, 8] : List Int) ∧ Dw g A cap zs w0 w' ∧ w.grownBy w' (some g)) := Lib.hid (PC.out [4, 4, 8] (by simp) (by simp) g A cap zs)
  have hz : (w.alloc (.cells #[.int .i64 0, .int .i64 0, .slice none 0 0] 26)).heap.size = w.heap.size + 1 := by simp
  clear h
  go_enter Try.func45, Try.ntmps45
  go_wp2_with fail
  refine (FR.out _ _ _ D0.out.again).mono ?_
  rintro e w1 ⟨a, b, l, TA, c, rfl, ha, hb, hR, hc, hl, hD1⟩
  have hg1 := hD1.grown0
  have hD := D0.out.trans hD1
  rw [hz] at hR
  have R1 := (hg1.block w.heap.size (by rw [hz]; omega) (by simp; omega)).trans R0.out
  have hs1 : w.heap.size + 1 ≤ w1.heap.size := by rw [← hz]; exact hg1.size
  obtain ⟨bb, hbb⟩ : ∃ bb, bb = w1.heap.size := ⟨_, rfl⟩
  have HA := Lib.hid ha; have HB := Lib.hid hb; have HC := Lib.hid hc; have HL := Lib.hid hl
  have n1 : g ≠ bb := by omega
  have n2 : g ≠ w.heap.size := by omega
  have n3 : g < w.heap.size + 1 := by omega
  have D2 := Lib.hid ((hD.alloc (.cells #[.int .i64 a, .int .i64 b, .slice TA l.length c] 26)).alloc (.cells #[.int .i64 4, .int .i64 4, .int .i64 8] 3))
  have hz2 : ((w1.alloc (.cells #[.int .i64 a, .int .i64 b, .slice TA l.length c] 26)).alloc (.cells #[.int .i64 4, .int .i64 4, .int .i64 8] 3)).heap.size = bb + 1 + 1 := by rw [hbb]; simp
  have K2 : Hid (((w1.alloc (.cells #[.int .i64 a, .int .i64 b, .slice TA l.length c] 26)).alloc (.cells #[.int .i64 4, .int .i64 4, .int .i64 8] 3)).heap[bb]? = some (.cells #[.int .i64 a, .int .i64 b, .slice TA l.length c] 26 (0, 0))) := Lib.hid (by rw [hbb]; exact (Below.heap_alloc (w1.alloc (.cells #[.int .i64 a, .int .i64 b, .slice TA l.length c] 26)) (.cells #[.int .i64 4, .int .i64 4, .int .i64 8] 3) w1.heap.size (by simp)).trans (heap_alloc_new w1 (.cells #[.int .i64 a, .int .i64 b, .slice TA l.length c] 26)))
  have R2 := Lib.hid ((Below.heap_alloc (w1.alloc (.cells #[.int .i64 a, .int .i64 b, .slice TA l.length c] 26)) (.cells #[.int .i64 4, .int .i64 4, .int .i64 8] 3) w.heap.size (by simp; omega)).trans ((Below.heap_alloc w1 (.cells #[.int .i64 a, .int .i64 b, .slice TA l.length c] 26) w.heap.size (by omega)).trans R1))
  have RT2 := Lib.hid ((hR.alloc (.cells #[.int .i64 a, .int .i64 b, .slice TA l.length c] 26)).alloc (.cells #[.int .i64 4, .int .i64 4, .int .i64 8] 3))
  have hb1 : w.heap.size < bb := by omega
  have hgb : g < bb := by omega
  have HBB := Lib.hid hbb
  have hs2 : bb + 1 ≤ ((w1.alloc (.cells #[.int .i64 a, .int .i64 b, .slice TA l.length c] 26)).alloc (.cells #[.int .i64 4, .int .i64 4, .int .i64 8] 3)).heap.size := by rw [hz2]; omega
  clear hD1 hg1 hD hR R1 R0 D0 hz hbb hc hl hz2
  go_wp2_with fail
  rw [← HBB.out]
  refine (P3.out _ _ (bb + 1) D2.out (by rw [HBB.out]; exact heap_alloc_second w1 _ _) (by omega)).mono ?_
  rintro e w3 ⟨z, rfl, hzm, hD3, hg3⟩
  have hzc : z = 4 ∨ z = 8 := by
    simp only [List.mem_cons, List.mem_nil_iff, or_false] at hzm
    omega
  have K3 := Lib.hid ((hg3.block bb (by omega) (by simp; omega)).trans K2.out)
  have R3 := Lib.hid ((hg3.block w.heap.size (by omega) (by simp; omega)).trans R2.out)
  have RT3 := Lib.hid (RT2.out.grown hg3 n3)
  have hs3 := Nat.le_trans hs2 hg3.size
  have D3 := Lib.hid hD3
  clear hzm hD3 hg3 K2 R2 RT2 D2 HBB hs2
  rcases hzc with rfl | rfl
  · skip
    have hn16 : (0 : Int) ≤ 4 ∧ (4 : Int) ≤ 16 := by decide
    obtain ⟨q, hq⟩ : ∃ q : Nat, a.tdiv 4 = (q : Int) := ⟨(a / 4).toNat, by rw [Int.tdiv_eq_ediv_of_nonneg (by omega)]; omega⟩
    have hq1 : a / 4 = (q : Int) := by rw [Int.tdiv_eq_ediv_of_nonneg (by omega)] at hq; exact hq
    have hqb : q ≤ 10 := by omega
    obtain ⟨m, hm1, hm2, hm3, hm4⟩ := max_one q
    obtain ⟨p, hp⟩ : ∃ q : Nat, b.tdiv 4 = (q : Int) := ⟨(b / 4).toNat, by rw [Int.tdiv_eq_ediv_of_nonneg (by omega)]; omega⟩
    have hp1 : b / 4 = (p : Int) := by rw [Int.tdiv_eq_ediv_of_nonneg (by omega)] at hp; exact hp
    have hpb : p ≤ 10 := by omega
    obtain ⟨m', hm1', hm2', hm3', hm4'⟩ := max_one p
    obtain ⟨c0, c1, c2⟩ := cells3 K3.out
    go_wp2_with fail
    refine (BC.out (m : Int) _ _ _ _ _ _ D3.out).mono ?_
    rintro e w4 ⟨x, rfl, hx, -, hD4, hg4⟩
    have hx1 : (x : Int) < (m : Int) := hx (by omega)
    obtain ⟨X, hX, hXb⟩ : ∃ X : Int, (4 : Int) * (x : Int) = X ∧ (0 ≤ X ∧ X ≤ 200) := ⟨_, rfl, by omega⟩
    have hXw : IntKind.i64.wrap X = X := IntWalk.i64_in _ (by omega)
    have K4 := Lib.hid ((hg4.block bb (by omega) (by simp; omega)).trans K3.out)
    have R4 := Lib.hid ((hg4.block w.heap.size (by omega) (by simp; omega)).trans R3.out)
    have RT4 := Lib.hid (RT3.out.grown hg4 n3)
    have hs4 := Nat.le_trans hs3 hg4.size
    have D4 := Lib.hid hD4
    clear hx hD4 hg4 c0 c1 c2 hx1
    obtain ⟨c0, c1, c2⟩ := cells3 K4.out
    go_wp2_with fail
    refine (BC.out (m' : Int) _ _ _ _ _ _ D4.out).mono ?_
    rintro e w5 ⟨y, rfl, hy, -, hD5, hg5⟩
    have hy1 : (y : Int) < (m' : Int) := hy (by omega)
    obtain ⟨Y, hY, hYb⟩ : ∃ X : Int, (4 : Int) * (y : Int) = X ∧ (0 ≤ X ∧ X ≤ 200) := ⟨_, rfl, by omega⟩
    have hYw : IntKind.i64.wrap Y = Y := IntWalk.i64_in _ (by omega)
    have K5 := Lib.hid ((hg5.block bb (by omega) (by simp; omega)).trans K4.out)
    have R5 := Lib.hid ((hg5.block w.heap.size (by omega) (by simp; omega)).trans R4.out)
    have RT5 := Lib.hid (RT4.out.grown hg5 n3)
    have hs5 := Nat.le_trans hs4 hg5.size
    have D5 := Lib.hid hD5
    clear hy hD5 hg5 c0 c1 c2 hy1
    go_wp2_with fail
    refine (BC.out 14 _ _ _ _ _ _ D5.out).mono ?_
    rintro e w6 ⟨k, rfl, -, -, hD6, hg6⟩
    have K6 := Lib.hid ((hg6.block bb (by omega) (by simp; omega)).trans K5.out)
    have R6 := Lib.hid ((hg6.block w.heap.size (by omega) (by simp; omega)).trans R5.out)
    have RT6 := Lib.hid (RT5.out.grown hg6 n3)
    have hs6 := Nat.le_trans hs5 hg6.size
    have D6 := Lib.hid hD6
    clear hD6 hg6
    obtain ⟨c0, c1, c2⟩ := cells3 K6.out
    by_cases hk0 : k = 0
    · subst hk0
      have D6a := Lib.hid (D6.out.alloc (.cells #[.int .i64 (-4), .int .i64 1, .int .i64 a] 3))
      have K6a := Lib.hid ((Below.heap_alloc w6 (.cells #[.int .i64 (-4), .int .i64 1, .int .i64 a] 3) bb (by omega)).trans K6.out)
      have R6a := Lib.hid ((Below.heap_alloc w6 (.cells #[.int .i64 (-4), .int .i64 1, .int .i64 a] 3) w.heap.size (by omega)).trans R6.out)
      have RT6a := Lib.hid (RT6.out.alloc (.cells #[.int .i64 (-4), .int .i64 1, .int .i64 a] 3))
      have hs6a : bb + 1 ≤ (w6.alloc (.cells #[.int .i64 (-4), .int .i64 1, .int .i64 a] 3)).heap.size := by simp; omega
      have PA : Hid (∀ (w0 w : World) (gl : Nat), Dw g A cap zs w0 w → w.heap[gl]? = some (.cells #[.int .i64 (-4), .int .i64 1, .int .i64 a] 3 (0, 0)) → gl ≠ g → Calls Try.prog 67 #[.pointer (some ⟨g, 0, none⟩), .slice (some ⟨gl, 0, none⟩) 3 3] w fun e w' => ∃ x : Int, e = .returned (.int .i64 x) ∧ x ∈ ([-4, 1, a] : List Int) ∧ Dw g A cap zs w0 w' ∧ w.grownBy w' (some g)) := Lib.hid (PC.out [-4, 1, a] (by simp) (by simp) g A cap zs)
      go_wp2_with fail
      refine (PA.out _ _ w6.heap.size D6a.out (heap_alloc_new w6 _) (by omega)).mono ?_
      rintro e w7 ⟨z, rfl, hzm, hD7, hg7⟩
      have hzr : -1000 ≤ z ∧ z ≤ 1000 := by
        simp only [List.mem_cons, List.mem_nil_iff, or_false] at hzm
        omega
      have HZ := Lib.hid hzr
      have K7 := Lib.hid ((hg7.block bb (by omega) (by simp; omega)).trans K6a.out)
      have R7 := Lib.hid ((hg7.block w.heap.size (by omega) (by simp; omega)).trans R6a.out)
      have RT7 := Lib.hid (RT6a.out.grown hg7 n3)
      have hs7 := Nat.le_trans hs6a hg7.size
      have D7 := Lib.hid hD7
      clear hzm hzr hD7 hg7 c0 c1 c2
      obtain ⟨c0, c1, c2⟩ := cells3 K7.out
      obtain ⟨r0, r1, r2⟩ := cells3 R7.out
      obtain ⟨z0, z1, z2⟩ := frozen3 R7.out
      obtain ⟨e0, e1, e2⟩ := cells3 (put_three R7.out (.int .i64 a) (.int .i64 b) (.slice TA l.length c))
      have og := Lib.hid ((RT7.out.grown (grown_three w7 w.heap.size (.int .i64 a) (.int .i64 b) (.slice TA l.length c)) (Nat.lt_succ_self _)).low (Nat.le_succ _))
      have dz := Lib.hid (dw_put3 D7.out hs0 hgw (.int .i64 a) (.int .i64 b) (.slice TA l.length c))
      go_wp2
      exact bodyPost_ret (v := .tuple #[.agg #[.int .i64 a, .int .i64 b, .slice TA l.length c], .int .i64 z, .int .i64 Y, .int .i64 4]) (by simp [results, Try.results45, go_sem, e0, e1, e2]) rfl ⟨a, b, l, TA, c, z, Y, 4, rfl, HA.out, HB.out, hn16, HZ.out, ⟨by omega, by omega⟩, og.out, HC.out, HL.out, dz.out⟩
    · have q0 : ((k : Int) == 0) = false := by rw [beq_eq_false_iff_ne]; omega
      by_cases hk1 : k = 1
      · subst hk1
        have D6a := Lib.hid (D6.out.alloc (.cells #[.int .i64 0, .int .i64 5, .int .i64 16] 3))
        have K6a := Lib.hid ((Below.heap_alloc w6 (.cells #[.int .i64 0, .int .i64 5, .int .i64 16] 3) bb (by omega)).trans K6.out)
        have R6a := Lib.hid ((Below.heap_alloc w6 (.cells #[.int .i64 0, .int .i64 5, .int .i64 16] 3) w.heap.size (by omega)).trans R6.out)
        have RT6a := Lib.hid (RT6.out.alloc (.cells #[.int .i64 0, .int .i64 5, .int .i64 16] 3))
        have hs6a : bb + 1 ≤ (w6.alloc (.cells #[.int .i64 0, .int .i64 5, .int .i64 16] 3)).heap.size := by simp; omega
        have PB : Hid (∀ (w0 w : World) (gl : Nat), Dw g A cap zs w0 w → w.heap[gl]? = some (.cells #[.int .i64 0, .int .i64 5, .int .i64 16] 3 (0, 0)) → gl ≠ g → Calls Try.prog 67 #[.pointer (some ⟨g, 0, none⟩), .slice (some ⟨gl, 0, none⟩) 3 3] w fun e w' => ∃ x : Int, e = .returned (.int .i64 x) ∧ x ∈ ([0, 5, 16] : List Int) ∧ Dw g A cap zs w0 w' ∧ w.grownBy w' (some g)) := Lib.hid (PC.out [0, 5, 16] (by simp) (by simp) g A cap zs)
        go_wp2_with fail
        refine (PB.out _ _ w6.heap.size D6a.out (heap_alloc_new w6 _) (by omega)).mono ?_
        rintro e w7 ⟨z, rfl, hzm, hD7, hg7⟩
        have hzr : 0 ≤ z ∧ z ≤ 16 := by
          simp only [List.mem_cons, List.mem_nil_iff, or_false] at hzm
          omega
        have HZ := Lib.hid hzr
        have K7 := Lib.hid ((hg7.block bb (by omega) (by simp; omega)).trans K6a.out)
        have R7 := Lib.hid ((hg7.block w.heap.size (by omega) (by simp; omega)).trans R6a.out)
        have RT7 := Lib.hid (RT6a.out.grown hg7 n3)
        have hs7 := Nat.le_trans hs6a hg7.size
        have D7 := Lib.hid hD7
        clear hzm hzr hD7 hg7 c0 c1 c2
        obtain ⟨c0, c1, c2⟩ := cells3 K7.out
        obtain ⟨r0, r1, r2⟩ := cells3 R7.out
        obtain ⟨z0, z1, z2⟩ := frozen3 R7.out
        obtain ⟨e0, e1, e2⟩ := cells3 (put_three R7.out (.int .i64 a) (.int .i64 b) (.slice TA l.length c))
        have og := Lib.hid ((RT7.out.grown (grown_three w7 w.heap.size (.int .i64 a) (.int .i64 b) (.slice TA l.length c)) (Nat.lt_succ_self _)).low (Nat.le_succ _))
        have dz := Lib.hid (dw_put3 D7.out hs0 hgw (.int .i64 a) (.int .i64 b) (.slice TA l.length c))
        go_wp2
        exact bodyPost_ret (v := .tuple #[.agg #[.int .i64 a, .int .i64 b, .slice TA l.length c], .int .i64 X, .int .i64 Y, .int .i64 z]) (by simp [results, Try.results45, go_sem, e0, e1, e2]) rfl ⟨a, b, l, TA, c, X, Y, z, rfl, HA.out, HB.out, HZ.out, ⟨by omega, by omega⟩, ⟨by omega, by omega⟩, og.out, HC.out, HL.out, dz.out⟩
      · have q1 : ((k : Int) == 1) = false := by rw [beq_eq_false_iff_ne]; omega
        obtain ⟨r0, r1, r2⟩ := cells3 R6.out
        obtain ⟨z0, z1, z2⟩ := frozen3 R6.out
        obtain ⟨e0, e1, e2⟩ := cells3 (put_three R6.out (.int .i64 a) (.int .i64 b) (.slice TA l.length c))
        have og := Lib.hid ((RT6.out.grown (grown_three w6 w.heap.size (.int .i64 a) (.int .i64 b) (.slice TA l.length c)) (Nat.lt_succ_self _)).low (Nat.le_succ _))
        have dz := Lib.hid (dw_put3 D6.out hs0 hgw (.int .i64 a) (.int .i64 b) (.slice TA l.length c))
        go_wp2
        exact bodyPost_ret (v := .tuple #[.agg #[.int .i64 a, .int .i64 b, .slice TA l.length c], .int .i64 X, .int .i64 Y, .int .i64 4]) (by simp [results, Try.results45, go_sem, e0, e1, e2]) rfl ⟨a, b, l, TA, c, X, Y, 4, rfl, HA.out, HB.out, hn16, ⟨by omega, by omega⟩, ⟨by omega, by omega⟩, og.out, HC.out, HL.out, dz.out⟩
    
  · skip
    have hn16 : (0 : Int) ≤ 8 ∧ (8 : Int) ≤ 16 := by decide
    obtain ⟨q, hq⟩ : ∃ q : Nat, a.tdiv 8 = (q : Int) := ⟨(a / 8).toNat, by rw [Int.tdiv_eq_ediv_of_nonneg (by omega)]; omega⟩
    have hq1 : a / 8 = (q : Int) := by rw [Int.tdiv_eq_ediv_of_nonneg (by omega)] at hq; exact hq
    have hqb : q ≤ 10 := by omega
    obtain ⟨m, hm1, hm2, hm3, hm4⟩ := max_one q
    obtain ⟨p, hp⟩ : ∃ q : Nat, b.tdiv 8 = (q : Int) := ⟨(b / 8).toNat, by rw [Int.tdiv_eq_ediv_of_nonneg (by omega)]; omega⟩
    have hp1 : b / 8 = (p : Int) := by rw [Int.tdiv_eq_ediv_of_nonneg (by omega)] at hp; exact hp
    have hpb : p ≤ 10 := by omega
    obtain ⟨m', hm1', hm2', hm3', hm4'⟩ := max_one p
    obtain ⟨c0, c1, c2⟩ := cells3 K3.out
    go_wp2_with fail
    refine (BC.out (m : Int) _ _ _ _ _ _ D3.out).mono ?_
    rintro e w4 ⟨x, rfl, hx, -, hD4, hg4⟩
    have hx1 : (x : Int) < (m : Int) := hx (by omega)
    obtain ⟨X, hX, hXb⟩ : ∃ X : Int, (8 : Int) * (x : Int) = X ∧ (0 ≤ X ∧ X ≤ 200) := ⟨_, rfl, by omega⟩
    have hXw : IntKind.i64.wrap X = X := IntWalk.i64_in _ (by omega)
    have K4 := Lib.hid ((hg4.block bb (by omega) (by simp; omega)).trans K3.out)
    have R4 := Lib.hid ((hg4.block w.heap.size (by omega) (by simp; omega)).trans R3.out)
    have RT4 := Lib.hid (RT3.out.grown hg4 n3)
    have hs4 := Nat.le_trans hs3 hg4.size
    have D4 := Lib.hid hD4
    clear hx hD4 hg4 c0 c1 c2 hx1
    obtain ⟨c0, c1, c2⟩ := cells3 K4.out
    go_wp2_with fail
    refine (BC.out (m' : Int) _ _ _ _ _ _ D4.out).mono ?_
    rintro e w5 ⟨y, rfl, hy, -, hD5, hg5⟩
    have hy1 : (y : Int) < (m' : Int) := hy (by omega)
    obtain ⟨Y, hY, hYb⟩ : ∃ X : Int, (8 : Int) * (y : Int) = X ∧ (0 ≤ X ∧ X ≤ 200) := ⟨_, rfl, by omega⟩
    have hYw : IntKind.i64.wrap Y = Y := IntWalk.i64_in _ (by omega)
    have K5 := Lib.hid ((hg5.block bb (by omega) (by simp; omega)).trans K4.out)
    have R5 := Lib.hid ((hg5.block w.heap.size (by omega) (by simp; omega)).trans R4.out)
    have RT5 := Lib.hid (RT4.out.grown hg5 n3)
    have hs5 := Nat.le_trans hs4 hg5.size
    have D5 := Lib.hid hD5
    clear hy hD5 hg5 c0 c1 c2 hy1
    go_wp2_with fail
    refine (BC.out 14 _ _ _ _ _ _ D5.out).mono ?_
    rintro e w6 ⟨k, rfl, -, -, hD6, hg6⟩
    have K6 := Lib.hid ((hg6.block bb (by omega) (by simp; omega)).trans K5.out)
    have R6 := Lib.hid ((hg6.block w.heap.size (by omega) (by simp; omega)).trans R5.out)
    have RT6 := Lib.hid (RT5.out.grown hg6 n3)
    have hs6 := Nat.le_trans hs5 hg6.size
    have D6 := Lib.hid hD6
    clear hD6 hg6
    obtain ⟨c0, c1, c2⟩ := cells3 K6.out
    by_cases hk0 : k = 0
    · subst hk0
      have D6a := Lib.hid (D6.out.alloc (.cells #[.int .i64 (-4), .int .i64 1, .int .i64 a] 3))
      have K6a := Lib.hid ((Below.heap_alloc w6 (.cells #[.int .i64 (-4), .int .i64 1, .int .i64 a] 3) bb (by omega)).trans K6.out)
      have R6a := Lib.hid ((Below.heap_alloc w6 (.cells #[.int .i64 (-4), .int .i64 1, .int .i64 a] 3) w.heap.size (by omega)).trans R6.out)
      have RT6a := Lib.hid (RT6.out.alloc (.cells #[.int .i64 (-4), .int .i64 1, .int .i64 a] 3))
      have hs6a : bb + 1 ≤ (w6.alloc (.cells #[.int .i64 (-4), .int .i64 1, .int .i64 a] 3)).heap.size := by simp; omega
      have PA : Hid (∀ (w0 w : World) (gl : Nat), Dw g A cap zs w0 w → w.heap[gl]? = some (.cells #[.int .i64 (-4), .int .i64 1, .int .i64 a] 3 (0, 0)) → gl ≠ g → Calls Try.prog 67 #[.pointer (some ⟨g, 0, none⟩), .slice (some ⟨gl, 0, none⟩) 3 3] w fun e w' => ∃ x : Int, e = .returned (.int .i64 x) ∧ x ∈ ([-4, 1, a] : List Int) ∧ Dw g A cap zs w0 w' ∧ w.grownBy w' (some g)) := Lib.hid (PC.out [-4, 1, a] (by simp) (by simp) g A cap zs)
      go_wp2_with fail
      refine (PA.out _ _ w6.heap.size D6a.out (heap_alloc_new w6 _) (by omega)).mono ?_
      rintro e w7 ⟨z, rfl, hzm, hD7, hg7⟩
      have hzr : -1000 ≤ z ∧ z ≤ 1000 := by
        simp only [List.mem_cons, List.mem_nil_iff, or_false] at hzm
        omega
      have HZ := Lib.hid hzr
      have K7 := Lib.hid ((hg7.block bb (by omega) (by simp; omega)).trans K6a.out)
      have R7 := Lib.hid ((hg7.block w.heap.size (by omega) (by simp; omega)).trans R6a.out)
      have RT7 := Lib.hid (RT6a.out.grown hg7 n3)
      have hs7 := Nat.le_trans hs6a hg7.size
      have D7 := Lib.hid hD7
      clear hzm hzr hD7 hg7 c0 c1 c2
      obtain ⟨c0, c1, c2⟩ := cells3 K7.out
      obtain ⟨r0, r1, r2⟩ := cells3 R7.out
      obtain ⟨z0, z1, z2⟩ := frozen3 R7.out
      obtain ⟨e0, e1, e2⟩ := cells3 (put_three R7.out (.int .i64 a) (.int .i64 b) (.slice TA l.length c))
      have og := Lib.hid ((RT7.out.grown (grown_three w7 w.heap.size (.int .i64 a) (.int .i64 b) (.slice TA l.length c)) (Nat.lt_succ_self _)).low (Nat.le_succ _))
      have dz := Lib.hid (dw_put3 D7.out hs0 hgw (.int .i64 a) (.int .i64 b) (.slice TA l.length c))
      go_wp2
      exact bodyPost_ret (v := .tuple #[.agg #[.int .i64 a, .int .i64 b, .slice TA l.length c], .int .i64 z, .int .i64 Y, .int .i64 8]) (by simp [results, Try.results45, go_sem, e0, e1, e2]) rfl ⟨a, b, l, TA, c, z, Y, 8, rfl, HA.out, HB.out, hn16, HZ.out, ⟨by omega, by omega⟩, og.out, HC.out, HL.out, dz.out⟩
    · have q0 : ((k : Int) == 0) = false := by rw [beq_eq_false_iff_ne]; omega
      by_cases hk1 : k = 1
      · subst hk1
        have D6a := Lib.hid (D6.out.alloc (.cells #[.int .i64 0, .int .i64 5, .int .i64 16] 3))
        have K6a := Lib.hid ((Below.heap_alloc w6 (.cells #[.int .i64 0, .int .i64 5, .int .i64 16] 3) bb (by omega)).trans K6.out)
        have R6a := Lib.hid ((Below.heap_alloc w6 (.cells #[.int .i64 0, .int .i64 5, .int .i64 16] 3) w.heap.size (by omega)).trans R6.out)
        have RT6a := Lib.hid (RT6.out.alloc (.cells #[.int .i64 0, .int .i64 5, .int .i64 16] 3))
        have hs6a : bb + 1 ≤ (w6.alloc (.cells #[.int .i64 0, .int .i64 5, .int .i64 16] 3)).heap.size := by simp; omega
        have PB : Hid (∀ (w0 w : World) (gl : Nat), Dw g A cap zs w0 w → w.heap[gl]? = some (.cells #[.int .i64 0, .int .i64 5, .int .i64 16] 3 (0, 0)) → gl ≠ g → Calls Try.prog 67 #[.pointer (some ⟨g, 0, none⟩), .slice (some ⟨gl, 0, none⟩) 3 3] w fun e w' => ∃ x : Int, e = .returned (.int .i64 x) ∧ x ∈ ([0, 5, 16] : List Int) ∧ Dw g A cap zs w0 w' ∧ w.grownBy w' (some g)) := Lib.hid (PC.out [0, 5, 16] (by simp) (by simp) g A cap zs)
        go_wp2_with fail
        refine (PB.out _ _ w6.heap.size D6a.out (heap_alloc_new w6 _) (by omega)).mono ?_
        rintro e w7 ⟨z, rfl, hzm, hD7, hg7⟩
        have hzr : 0 ≤ z ∧ z ≤ 16 := by
          simp only [List.mem_cons, List.mem_nil_iff, or_false] at hzm
          omega
        have HZ := Lib.hid hzr
        have K7 := Lib.hid ((hg7.block bb (by omega) (by simp; omega)).trans K6a.out)
        have R7 := Lib.hid ((hg7.block w.heap.size (by omega) (by simp; omega)).trans R6a.out)
        have RT7 := Lib.hid (RT6a.out.grown hg7 n3)
        have hs7 := Nat.le_trans hs6a hg7.size
        have D7 := Lib.hid hD7
        clear hzm hzr hD7 hg7 c0 c1 c2
        obtain ⟨c0, c1, c2⟩ := cells3 K7.out
        obtain ⟨r0, r1, r2⟩ := cells3 R7.out
        obtain ⟨z0, z1, z2⟩ := frozen3 R7.out
        obtain ⟨e0, e1, e2⟩ := cells3 (put_three R7.out (.int .i64 a) (.int .i64 b) (.slice TA l.length c))
        have og := Lib.hid ((RT7.out.grown (grown_three w7 w.heap.size (.int .i64 a) (.int .i64 b) (.slice TA l.length c)) (Nat.lt_succ_self _)).low (Nat.le_succ _))
        have dz := Lib.hid (dw_put3 D7.out hs0 hgw (.int .i64 a) (.int .i64 b) (.slice TA l.length c))
        go_wp2
        exact bodyPost_ret (v := .tuple #[.agg #[.int .i64 a, .int .i64 b, .slice TA l.length c], .int .i64 X, .int .i64 Y, .int .i64 z]) (by simp [results, Try.results45, go_sem, e0, e1, e2]) rfl ⟨a, b, l, TA, c, X, Y, z, rfl, HA.out, HB.out, HZ.out, ⟨by omega, by omega⟩, ⟨by omega, by omega⟩, og.out, HC.out, HL.out, dz.out⟩
      · have q1 : ((k : Int) == 1) = false := by rw [beq_eq_false_iff_ne]; omega
        obtain ⟨r0, r1, r2⟩ := cells3 R6.out
        obtain ⟨z0, z1, z2⟩ := frozen3 R6.out
        obtain ⟨e0, e1, e2⟩ := cells3 (put_three R6.out (.int .i64 a) (.int .i64 b) (.slice TA l.length c))
        have og := Lib.hid ((RT6.out.grown (grown_three w6 w.heap.size (.int .i64 a) (.int .i64 b) (.slice TA l.length c)) (Nat.lt_succ_self _)).low (Nat.le_succ _))
        have dz := Lib.hid (dw_put3 D6.out hs0 hgw (.int .i64 a) (.int .i64 b) (.slice TA l.length c))
        go_wp2
        exact bodyPost_ret (v := .tuple #[.agg #[.int .i64 a, .int .i64 b, .slice TA l.length c], .int .i64 X, .int .i64 Y, .int .i64 8]) (by simp [results, Try.results45, go_sem, e0, e1, e2]) rfl ⟨a, b, l, TA, c, X, Y, 8, rfl, HA.out, HB.out, hn16, ⟨by omega, by omega⟩, ⟨by omega, by omega⟩, og.out, HC.out, HL.out, dz.out⟩
    
end Go.Proofs.Ytemfiglflbfocaa
