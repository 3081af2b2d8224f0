/-
  Contracts of ReadSym, in both texts: both answer what the table's entry of the next seven bits says. Conditions: the string is no longer than 1048576 bytes, the list no longer than 1048576 (the laws ask no more).
-/
import Derived.Test.YtgacldhpohnpaaaSymU
import Derived.Test.YtgacldhpohnpaaaRead
namespace Go.Proofs.Ytgacldhpohnpaaa
open Go.RowKit
set_option linter.unusedVariables false

/-- The next seven bits as a number, zeros behind the end. -/
def rx (s : ByteArray) (a : Nat) : Nat := rdN s a (min 7 (8 * s.size - a)) * 2 ^ (7 - min 7 (8 * s.size - a))
theorem rx_lt (s : ByteArray) (a : Nat) : rx s a < 128 := by
  unfold rx
  have h := rdN_lt s a (min 7 (8 * s.size - a))
  have h2 := Nat.mul_lt_mul_of_pos_right h (Nat.two_pow_pos (7 - min 7 (8 * s.size - a)))
  rw [← Nat.pow_add, show min 7 (8 * s.size - a) + (7 - min 7 (8 * s.size - a)) = 7 by omega] at h2
  exact h2
theorem rx_first (s : ByteArray) (a S : Nat) (hS : S ≤ 7) (ha : a + S ≤ 8 * s.size) : rx s a / 2 ^ (7 - S) = rdN s a S := by
  unfold rx
  obtain ⟨m, hm⟩ : ∃ m, m = min 7 (8 * s.size - a) := ⟨_, rfl⟩
  rw [← hm]
  rw [show 7 - S = (7 - m) + (m - S) by omega, Nat.pow_add, ← Nat.div_div_eq_div_mul, Nat.mul_div_cancel _ (Nat.two_pow_pos _), rdN_cut s a S m (by omega)]
/-- The entry of the next seven bits. -/
def symE (s : ByteArray) (a : Int) (l : List Int) : Int × Int := entAt (symT l) (rx s a.toNat)
/-- Is a symbol read? -/
def sHit (s : ByteArray) (a : Int) (l : List Int) : Bool := okC l && (rdOk s a && decide (a + (symE s a l).1 ≤ 8 * (s.size : Int)))
/-- What ReadSym answers: the place, the symbol, the fault. -/
def syP (s : ByteArray) (a : Int) (l : List Int) : Int := if sHit s a l then a + (symE s a l).1 else a
def syM (s : ByteArray) (a : Int) (l : List Int) : Int := if sHit s a l then (symE s a l).2 else 0
def syF (s : ByteArray) (a : Int) (l : List Int) : Int := if okC l then (if sHit s a l then 0 else 1) else 4
def syR (s : ByteArray) (a : Int) (l : List Int) : Value := .tuple #[.agg #[.string s, .int .i64 (syP s a l)], .int .i64 (syM s a l), .int .i64 (syF s a l)]
/-- Does a symbol's code stand here? -/
def matchC (s : ByteArray) (a : Int) (l : List Int) (p : Nat) : Prop := rbOk s a (lenC l p) = true ∧ rbNum s a (lenC l p) = (codeL l).getD p 0
theorem match_hit {s : ByteArray} {a : Int} {l : List Int} (h : okC l = true) (p : Nat) (hp : p < 6) (hm : matchC s a l p) : sHit s a l = true ∧ symE s a l = (lenC l p, (p : Int)) ∧ rbPlace s a (lenC l p) = a + lenC l p := by
  obtain ⟨h1, h2⟩ := hm
  have hr := lenC_range h p
  simp only [inC, Bool.and_eq_true, decide_eq_true_eq] at hr
  have h10 := h1
  obtain ⟨b, n, rfl, hn, hn32, hbn⟩ := rbOk_nat s a _ h1
  have hn7 : n ≤ 7 := by omega
  unfold rbNum at h2
  rw [if_pos h1, Int.toNat_natCast, hn, Int.toNat_natCast] at h2
  by_cases h0 : n = 0
  · subst h0
    rw [valid_none h p hp hn] at h2
    simp [rdN] at h2
  · obtain ⟨q, rfl⟩ : ∃ q, n = q + 1 := ⟨n - 1, by omega⟩
    have hq : lenC l p = (q : Int) + 1 := by rw [hn]; omega
    obtain ⟨hq7, k, k1, k2, k3⟩ := valid_one h p q hp hq
    have hf := rx_first s b (q + 1) hn7 hbn
    rw [show 7 - (q + 1) = 6 - q by omega] at hf
    have hk : rx s b / 2 ^ (6 - q) = k := by
      rw [hf]
      rw [k1] at h2
      omega
    have he : symE s (b : Int) l = (lenC l p, (p : Int)) := by
      unfold symE
      rw [Int.toNat_natCast, k3 _ hk, hq]
    refine ⟨?_, he, ?_⟩
    · unfold sHit
      rw [h, he, hq]
      simp only [Bool.true_and, Bool.and_eq_true, decide_eq_true_eq, rdOk_true]
      omega
    · unfold rbPlace
      rw [if_pos h10]
theorem hit_match {s : ByteArray} {a : Int} {l : List Int} (hh : sHit s a l = true) : ∃ p q : Nat, p < 6 ∧ q < 7 ∧ lenC l p = (q : Int) + 1 ∧ symE s a l = ((q : Int) + 1, (p : Int)) ∧ matchC s a l p := by
  unfold sHit at hh
  simp only [Bool.and_eq_true, decide_eq_true_eq] at hh
  obtain ⟨h, h1, h2⟩ := hh
  have h10 := h1
  rw [rdOk_true] at h1
  obtain ⟨b, rfl⟩ := Int.eq_ofNat_of_zero_le h1.1
  obtain ⟨p, q, hp, hq7, hq, he, hc⟩ := valid_has h (rx s b) (rx_lt s b)
  have hE : symE s (b : Int) l = ((q : Int) + 1, (p : Int)) := by
    unfold symE
    rw [Int.toNat_natCast, he]
  rw [hE] at h2
  have hb : b + (q + 1) ≤ 8 * s.size := by
    have : (b : Int) + ((q : Int) + 1) ≤ 8 * (s.size : Int) := h2
    omega
  have hok : rbOk s (b : Int) ((q : Int) + 1) = true := by
    simp only [rbOk, h10, leftV, if_true, Bool.true_and, Bool.and_eq_true, decide_eq_true_eq]
    omega
  refine ⟨p, q, hp, hq7, hq, hE, ?_⟩
  unfold matchC
  rw [hq]
  refine ⟨hok, ?_⟩
  unfold rbNum
  rw [if_pos hok, Int.toNat_natCast, show ((q : Int) + 1).toNat = q + 1 by omega, hc, ← rx_first s b (q + 1) (by omega) hb, show 7 - (q + 1) = 6 - q by omega]

theorem syR_bad {s : ByteArray} {a : Int} {l : List Int} (h : okC l = false) : syR s a l = .tuple #[.agg #[.string s, .int .i64 a], .int .i64 0, .int .i64 4] := by
  have hh : sHit s a l = false := by unfold sHit; rw [h]; rfl
  unfold syR syP syM syF
  rw [hh, h]
  simp
theorem syR_short {s : ByteArray} {a : Int} {l : List Int} (h : okC l = true) (hh : sHit s a l = false) : syR s a l = .tuple #[.agg #[.string s, .int .i64 a], .int .i64 0, .int .i64 1] := by
  unfold syR syP syM syF
  rw [hh, h]
  simp
theorem syR_hit {s : ByteArray} {a : Int} {l : List Int} (h : okC l = true) (p : Nat) (hp : p < 6) (hm : matchC s a l p) : syR s a l = .tuple #[.agg #[.string s, .int .i64 (rbPlace s a (lenC l p))], .int .i64 p, .int .i64 0] := by
  obtain ⟨h1, h2, h3⟩ := match_hit h p hp hm
  unfold syR syP syM syF
  rw [h1, h, h2, h3]
  simp

theorem zero_nomatch {s : ByteArray} {a : Int} {l : List Int} {p : Nat} (h0 : lenC l p = 0) (hc : (codeL l).getD p 0 = -1) : ¬ matchC s a l p := by
  rintro ⟨h1, h2⟩
  unfold rbNum at h2
  rw [if_pos h1, hc, h0] at h2
  simp [rdN] at h2
theorem rbOk_le {s : ByteArray} {a m n : Int} (h : rbOk s a m = true) (h0 : 0 ≤ n) (hn : n ≤ m) : rbOk s a n = true := by
  simp only [rbOk, Bool.and_eq_true, decide_eq_true_eq] at h ⊢
  exact ⟨h.1, by omega, by omega, by omega⟩
/-- Where seven bits are there, a symbol is read. -/
theorem seven_match {s : ByteArray} {a : Int} {l : List Int} (h : okC l = true) (h7 : rbOk s a ((7 : Nat) : Int) = true) : ∃ p, p < 6 ∧ lenC l p ≤ ((7 : Nat) : Int) ∧ matchC s a l p := by
  have h8 := h7
  simp only [rbOk, Bool.and_eq_true, decide_eq_true_eq] at h7
  obtain ⟨h1, h2, h3, h4⟩ := h7
  have hr := h1
  rw [rdOk_true] at hr
  unfold leftV at h4
  rw [if_pos h1] at h4
  have hh : sHit s a l = true := by
    obtain ⟨b, rfl⟩ := Int.eq_ofNat_of_zero_le hr.1
    obtain ⟨p, q, hp, hq7, hq, he, hc⟩ := valid_has h (rx s b) (rx_lt s b)
    unfold sHit symE
    rw [h, h1, Int.toNat_natCast, he]
    simp only [Bool.true_and, decide_eq_true_eq]
    omega
  obtain ⟨p, q, hp, hq7, hq, he, hm⟩ := hit_match hh
  exact ⟨p, hp, by omega, hm⟩

set_option maxRecDepth 100000 in
set_option maxHeartbeats 2000000 in
theorem impl_readsym_any (s : ByteArray) (a : Int) (hs : s.size ≤ 1048576) (A : Option Addr) (ca : Nat) (l : List Int) (w : World) (hA : Ints w w.heap.size A l) :
    Calls Try.prog 31 #[.agg #[.string s, .int .i64 a], .slice A l.length ca] w fun e w' => e = .returned (syR s a l) ∧ Below w.heap.size w w' := by
  have B0 := Lib.hid ((below_new w (.cells #[.string s, .int .i64 a] 35)).alloc (below_new w _).size (.cells #[.string ⟨#[]⟩, .int .i64 0] 35))
  have IC := Lib.hid (impl_codesof_any A ca l _ ((hA.below B0.out (Nat.le_refl _)).mono B0.out.size))
  cases hok : okC l with
  | false =>
    have hcr : codesR l = [] := by unfold codesR; rw [hok]; rfl
    rw [hcr] at IC
    rw [syR_bad hok]
    clear hcr hok
    go_enter Try.func31, Try.ntmps31
    go_wp2_with fail
    refine IC.out.mono ?_
    rintro e w1 ⟨A1, c1, rfl, ho1, hb1⟩
    obtain ⟨k0, k1⟩ := box22_kept hb1
    obtain ⟨c0, c1⟩ := cells2 k0
    have f1 := frozen_of_row w1 _ 0 _ _ k1
    have f2 := frozen_of_row w1 _ 1 _ _ k1
    obtain ⟨d0, d1⟩ := cells2 k1
    obtain ⟨w3, hw3, e0, e1, hb3⟩ := copy_out s a k1 (below_step B0.out hb1)
    have HW := Lib.hid hw3; have HB := Lib.hid hb3; have E0 := Lib.hid e0; have E1 := Lib.hid e1
    clear hw3 hb3 e0 e1 hb1 k0 k1 ho1
    go_wp2
    rw [← HW.out]
    have e0 := E0.out; have e1 := E1.out
    exact bodyPost_ret (v := .tuple #[.agg #[.string s, .int .i64 a], .int .i64 0, .int .i64 4]) (by simp [results, Try.results31, go_sem, e0, e1]) rfl ⟨rfl, HB.out⟩
  | true =>
    have hcr : codesR l = codeL l := by unfold codesR; rw [hok]; rfl
    have hcl := codeL_len hok
    rw [hcr, hcl] at IC
    have HCL := Lib.hid hcl
    have hl6 := (okC_parts hok).1
    have HRB := Lib.hid (fun n => impl_readbits_any s a n hs)
    have HHIT := Lib.hid (fun p hp hm => syR_hit (s := s) (a := a) hok p hp hm)
    have HNO : Hid ((∀ p, p < 6 → ¬ matchC s a l p) → syR s a l = .tuple #[.agg #[.string s, .int .i64 a], .int .i64 0, .int .i64 1]) := Lib.hid fun hno => syR_short hok (by
      cases hh : sHit s a l with
      | false => rfl
      | true =>
        obtain ⟨p, q, hp, _, _, _, hm⟩ := hit_match hh
        exact absurd hm (hno p hp))
    obtain ⟨b, off, rfl, hb, hc⟩ := hA.at 0 (by omega)
    rw [hl6] at hc IC ⊢
    have HC := Lib.hid hc
    obtain ⟨R, hR⟩ : ∃ R, R = syR s a l := ⟨_, rfl⟩
    rw [← hR] at HHIT HNO ⊢
    clear hc hA hl6 hcr hcl hok hR
    go_enter Try.func31, Try.ntmps31
    go_wp2_with fail
    refine IC.out.mono ?_
    rintro e w1 ⟨A1, c1, rfl, ho1, hb1⟩
    obtain ⟨k0, k1⟩ := box22_kept hb1
    have hRi := ho1.ints (by rw [HCL.out]; omega)
    obtain ⟨b1, o1, rfl, hb1', hc1⟩ := hRi.at 0 (by rw [HCL.out]; omega)
    rw [HCL.out] at hc1
    have HC1 := Lib.hid hc1
    have B1 := Lib.hid (below_step B0.out hb1)
    have K0 := Lib.hid k0; have K1 := Lib.hid k1
    have l1 := heap_lt k1
    clear hc1 hRi ho1 hb1 k0 k1
    go_wp2
    go_loopw [8, 9, 10, 11, 12, 21] (fun x1 x2 x3 x4 x5 i wr => ∃ j : Nat, j ≤ 6 ∧ i = .int .i64 j ∧ (∀ p, p < j → ¬ matchC s a l p) ∧ Below w1.heap.size w1 wr)
      (fun _ _ _ _ _ i _ => 6 - (intOf i).toNat)
    case atStart => exact ⟨0, Nat.zero_le _, rfl, fun p hp => absurd hp (by omega), Below.refl _ _⟩
    case round =>
      obtain ⟨j, hj, rfl, hno, hbel⟩ := hrel
      have HN := Lib.hid hno; have HB := Lib.hid hbel
      clear hno hbel
      have k0 := HB.out.block w.heap.size (by omega)
      rw [K0.out] at k0
      have k1 := HB.out.block (w.heap.size + 1) l1
      rw [K1.out] at k1
      have hws := HB.out.size
      by_cases hlt : j < 6
      · have cl := HC.out j hlt
        rw [← B1.out.cell (p := ⟨b, off + j, none⟩) hb, ← HB.out.cell (p := ⟨b, off + j, none⟩) (Nat.lt_of_lt_of_le hb B1.out.size)] at cl
        have cc := HC1.out j hlt
        obtain ⟨n, hn⟩ : ∃ n, n = lenC l j := ⟨_, rfl⟩
        obtain ⟨y, hy⟩ : ∃ y, y = (codeL l).getD j 0 := ⟨_, rfl⟩
        rw [show l.getD j 0 = n from hn.symm] at cl
        rw [← hy] at cc
        have M0 := HHIT.out j hlt
        have M1 : matchC s a l j ↔ (rbOk s a n = true ∧ rbNum s a n = y) := by unfold matchC; rw [← hn, ← hy]
        rw [← hn] at M0
        have RB := Lib.hid (HRB.out n)
        obtain ⟨pl, hpl⟩ : ∃ x, x = rbPlace s a n := ⟨_, rfl⟩
        obtain ⟨v, hv⟩ : ∃ x, x = rbNum s a n := ⟨_, rfl⟩
        obtain ⟨ok, hok⟩ : ∃ x, x = rbOk s a n := ⟨_, rfl⟩
        rw [← hpl, ← hv, ← hok] at RB
        rw [← hpl] at M0
        rw [← hv, ← hok] at M1
        have HM0 := Lib.hid M0; have HM1 := Lib.hid M1; have CC := Lib.hid cc; have K0r := Lib.hid k0; have K1r := Lib.hid k1
        clear M0 M1 hn hy hpl hv hok cc k0 k1
        obtain ⟨c0, c1⟩ := cells2 K0r.out
        go_wp2_with fail
        refine (RB.out _).mono ?_
        rintro e w2 ⟨rfl, hb2⟩
        have B2 := Lib.hid (below_up HB.out hb2 HB.out.size)
        have k0 := cell_kept K0r.out hb2
        have k1 := cell_kept K1r.out hb2
        have cc := CC.out
        have hb1s : b1 < w2.heap.size := Nat.lt_of_lt_of_le hb1' B2.out.size
        rw [← B2.out.cell (p := ⟨b1, o1 + j, none⟩) hb1'] at cc
        have l1b := heap_lt k1
        clear c0 c1 hb2
        have hc : ok = false ∨ (ok = true ∧ v ≠ y) ∨ (ok = true ∧ v = y) := by
          cases ok with
          | false => exact .inl rfl
          | true => by_cases h : v = y
                    · exact .inr (.inr ⟨rfl, h⟩)
                    · exact .inr (.inl ⟨rfl, h⟩)
        rcases hc with rfl | ⟨rfl, hne⟩ | ⟨rfl, heq⟩
        · clear k0 k1
          go_wp2
          go_roundw
          case rel =>
            refine ⟨j + 1, by omega, by go_num, fun p hp hm => ?_, B2.out.alloc B2.out.size _⟩
            by_cases e : p = j
            · subst e
              exact absurd (HM1.out.1 hm).1 (by decide)
            · exact HN.out p (by omega) hm
          case measure => simp [intOf]; omega
        · have hq : (v == y) = false := by rw [beq_eq_false_iff_ne]; exact hne
          have HNE := Lib.hid hne
          clear k0 k1 hne
          go_wp2
          go_roundw
          case rel =>
            refine ⟨j + 1, by omega, by go_num, fun p hp hm => ?_, B2.out.alloc B2.out.size _⟩
            by_cases e : p = j
            · subst e
              exact HNE.out (HM1.out.1 hm).2
            · exact HN.out p (by omega) hm
          case measure => simp [intOf]; omega
        · have hR := HM0.out (HM1.out.2 ⟨rfl, heq⟩)
          have HRR := Lib.hid hR
          subst heq
          have hq : (v == v) = true := by simp
          clear hR
          have f1 := frozen_of_row w2 _ 0 _ _ k1
          have f2 := frozen_of_row w2 _ 1 _ _ k1
          obtain ⟨d0, d1⟩ := cells2 k1
          have hbs := B2.out
          obtain ⟨w3, hw3⟩ : ∃ w3, w3 = ((w2.setCell ⟨w.heap.size + 1, 0, none⟩ (.string s)).setCell ⟨w.heap.size + 1, 1, none⟩ (.int .i64 pl)).alloc (.cells #[.string s, .int .i64 pl] 35) := ⟨_, rfl⟩
          have hb2 := below_up B1.out B2.out B1.out.size
          have hb3 : Below w.heap.size w w3 := by rw [hw3]; exact (below_set2 hb2 (w.heap.size + 1) (by omega) _ _).alloc (below_set2 hb2 (w.heap.size + 1) (by omega) _ _).size _
          obtain ⟨e0, e1⟩ : w3.cell? ⟨w.heap.size + 1, 0, none⟩ = some (.string s) ∧ w3.cell? ⟨w.heap.size + 1, 1, none⟩ = some (.int .i64 pl) := by rw [hw3]; exact cells2 (heap_keep (block_set2 k1 _ _) _)
          have HW := Lib.hid hw3; have HB3 := Lib.hid hb3; have E0 := Lib.hid e0; have E1 := Lib.hid e1
          clear hw3 hb3 e0 e1 hb2 k0 k1 hbs
          go_wp2
          rw [← HW.out]
          have e0 := E0.out; have e1 := E1.out
          exact bodyPost_ret (v := .tuple #[.agg #[.string s, .int .i64 pl], .int .i64 j, .int .i64 0]) (by simp [results, Try.results31, go_sem, e0, e1]) rfl ⟨by rw [HRR.out], HB3.out⟩
      · obtain rfl : j = 6 := by omega
        have HRR := Lib.hid (HNO.out HN.out)
        obtain ⟨c0, c1⟩ := cells2 k0
        have f1 := frozen_of_row wr _ 0 _ _ k1
        have f2 := frozen_of_row wr _ 1 _ _ k1
        obtain ⟨d0, d1⟩ := cells2 k1
        obtain ⟨w3, hw3, e0, e1, hb3⟩ := copy_out s a k1 (below_up B1.out HB.out B1.out.size)
        have HW := Lib.hid hw3; have HB3 := Lib.hid hb3; have E0 := Lib.hid e0; have E1 := Lib.hid e1
        clear hw3 hb3 e0 e1 k0 k1
        go_wp2
        rw [← HW.out]
        have e0 := E0.out; have e1 := E1.out
        exact bodyPost_ret (v := .tuple #[.agg #[.string s, .int .i64 a], .int .i64 0, .int .i64 1]) (by simp [results, Try.results31, go_sem, e0, e1]) rfl ⟨by rw [HRR.out], HB3.out⟩

set_option maxRecDepth 100000 in
set_option maxHeartbeats 2000000 in
theorem spec_readsym_any (s : ByteArray) (a : Int) (hs : s.size ≤ 1048576) (A : Option Addr) (ca : Nat) (l : List Int) (hll : l.length ≤ 1048576) (w : World) (hA : Ints w w.heap.size A l) :
    Calls Try.prog 34 #[.agg #[.string s, .int .i64 a], .slice A l.length ca] w fun e w' => e = .returned (syR s a l) ∧ Below w.heap.size w w' := by
  have B0 := Lib.hid ((below_new w (.cells #[.string s, .int .i64 a] 35)).alloc (below_new w _).size (.cells #[.string ⟨#[]⟩, .int .i64 0] 35))
  have IC := Lib.hid (spec_codesof_any A ca l hll _ ((hA.below B0.out (Nat.le_refl _)).mono B0.out.size))
  cases hok : okC l with
  | false =>
    have hcr : codesR l = [] := by unfold codesR; rw [hok]; rfl
    rw [hcr] at IC
    rw [syR_bad hok]
    clear hcr hok
    go_enter Try.func34, Try.ntmps34
    go_wp2_with fail
    refine IC.out.mono ?_
    rintro e w1 ⟨A1, c1, rfl, ho1, hb1⟩
    obtain ⟨k0, k1⟩ := box22_kept hb1
    obtain ⟨c0, c1⟩ := cells2 k0
    have f1 := frozen_of_row w1 _ 0 _ _ k1
    have f2 := frozen_of_row w1 _ 1 _ _ k1
    obtain ⟨d0, d1⟩ := cells2 k1
    obtain ⟨w3, hw3, e0, e1, hb3⟩ := copy_out s a k1 (below_step B0.out hb1)
    have HW := Lib.hid hw3; have HB := Lib.hid hb3; have E0 := Lib.hid e0; have E1 := Lib.hid e1
    clear hw3 hb3 e0 e1 hb1 k0 k1 ho1
    go_wp2
    rw [← HW.out]
    have e0 := E0.out; have e1 := E1.out
    exact bodyPost_ret (v := .tuple #[.agg #[.string s, .int .i64 a], .int .i64 0, .int .i64 4]) (by simp [results, Try.results34, go_sem, e0, e1]) rfl ⟨rfl, HB.out⟩
  | true =>
    have hcr : codesR l = codeL l := by unfold codesR; rw [hok]; rfl
    have hcl := codeL_len hok
    rw [hcr, hcl] at IC
    have HCL := Lib.hid hcl
    have hl6 := (okC_parts hok).1
    have HRB := Lib.hid (fun n => spec_readbits_any s a n hs)
    have HHIT := Lib.hid (fun p hp hm => syR_hit (s := s) (a := a) hok p hp hm)
    have HMT := Lib.hid (fun (hh : sHit s a l = true) => hit_match hh)
    have HSH : Hid (sHit s a l = false → syR s a l = .tuple #[.agg #[.string s, .int .i64 a], .int .i64 0, .int .i64 1]) := Lib.hid fun hh => syR_short hok hh
    have HLR := Lib.hid (lenC_range hok)
    have HVN := Lib.hid (valid_none hok)
    have HSEV := Lib.hid (seven_match (s := s) (a := a) hok)
    obtain ⟨b, off, rfl, hb, hc⟩ := hA.at 0 (by omega)
    rw [hl6] at hc IC ⊢
    have HC := Lib.hid hc
    obtain ⟨R, hR⟩ : ∃ R, R = syR s a l := ⟨_, rfl⟩
    rw [← hR] at HHIT HSH ⊢
    clear hc hA hl6 hcr hcl hok hR hll
    go_enter Try.func34, Try.ntmps34
    go_wp2_with fail
    refine IC.out.mono ?_
    rintro e w1 ⟨A1, c1, rfl, ho1, hb1⟩
    obtain ⟨k0, k1⟩ := box22_kept hb1
    have hRi := ho1.ints (by rw [HCL.out]; omega)
    obtain ⟨b1, o1, rfl, hb1', hc1⟩ := hRi.at 0 (by rw [HCL.out]; omega)
    rw [HCL.out] at hc1
    have HC1 := Lib.hid hc1
    have B1 := Lib.hid (below_step B0.out hb1)
    have K0 := Lib.hid k0; have K1 := Lib.hid k1
    have l1 := heap_lt k1
    clear hc1 hRi ho1 hb1 k0 k1
    go_wp2
    go_loopw [8, 9, 10, 11, 12] (fun wv x2 x3 x4 x5 wr => ∃ j : Nat, j ≤ 7 ∧ wv = .int .i64 ((j : Int) + 1) ∧ (∀ p, p < 6 → lenC l p ≤ (j : Int) → ¬ matchC s a l p) ∧ (1 ≤ j → rbOk s a (j : Int) = true) ∧ Below w1.heap.size w1 wr)
      (fun wv _ _ _ _ _ => 8 - (intOf wv).toNat)
    case atStart =>
      refine ⟨0, Nat.zero_le _, rfl, fun p hp hlp hm => ?_, fun h => absurd h (by omega), Below.refl _ _⟩
      have hr := HLR.out p
      simp only [inC, Bool.and_eq_true, decide_eq_true_eq] at hr
      exact zero_nomatch (by omega) (by rw [HVN.out p hp (by omega)]) hm
    case round =>
      obtain ⟨j, hj, rfl, hno, hrj, hbel⟩ := hrel
      have HN := Lib.hid hno; have HB := Lib.hid hbel; have HRJ := Lib.hid hrj
      clear hno hbel hrj
      have k0 := HB.out.block w.heap.size (by omega)
      rw [K0.out] at k0
      have k1 := HB.out.block (w.heap.size + 1) l1
      rw [K1.out] at k1
      have hws := HB.out.size
      by_cases hlt : j < 7
      · have hq7 : decide ((j : Int) + 1 ≤ 7) = true := by simp; omega
        have RB := Lib.hid (HRB.out ((j : Int) + 1))
        obtain ⟨pl, hpl⟩ : ∃ x, x = rbPlace s a ((j : Int) + 1) := ⟨_, rfl⟩
        obtain ⟨v, hv⟩ : ∃ x, x = rbNum s a ((j : Int) + 1) := ⟨_, rfl⟩
        obtain ⟨ok, hok⟩ : ∃ x, x = rbOk s a ((j : Int) + 1) := ⟨_, rfl⟩
        rw [← hpl, ← hv, ← hok] at RB
        have HPL := Lib.hid hpl; have HV := Lib.hid hv; have HOK := Lib.hid hok
        have K0r := Lib.hid k0; have K1r := Lib.hid k1
        clear hpl hv hok k0 k1
        obtain ⟨c0, c1⟩ := cells2 K0r.out
        go_wp2_with fail
        refine (RB.out _).mono ?_
        rintro e w2 ⟨rfl, hb2⟩
        have B2 := Lib.hid (below_up HB.out hb2 HB.out.size)
        have k0 := cell_kept K0r.out hb2
        have k1 := cell_kept K1r.out hb2
        have l1b := heap_lt k1
        clear c0 c1 hb2
        have K0s := Lib.hid k0; have K1s := Lib.hid k1
        cases ok with
        | false =>
          have hsh : sHit s a l = false := by
            cases hh : sHit s a l with
            | false => rfl
            | true =>
              exfalso
              obtain ⟨p, q, hp, hq7', hq, he, hm⟩ := HMT.out hh
              refine HN.out p hp ?_ hm
              have h1 := hm.1
              rw [hq] at h1 ⊢
              refine Decidable.byContradiction fun hlt2 => ?_
              have h2 := HOK.out
              have h3 := rbOk_le h1 (n := (j : Int) + 1) (by omega) (by omega)
              rw [h3] at h2
              exact absurd h2 (by decide)
          have HRR := Lib.hid (HSH.out hsh)
          clear hsh
          obtain ⟨c0, c1⟩ := cells2 k0
          have f1 := frozen_of_row w2 _ 0 _ _ k1
          have f2 := frozen_of_row w2 _ 1 _ _ k1
          obtain ⟨d0, d1⟩ := cells2 k1
          have l0b := heap_lt k0
          obtain ⟨w3, hw3⟩ : ∃ w3, w3 = ((w2.setCell ⟨w.heap.size + 1, 0, none⟩ (.string s)).setCell ⟨w.heap.size + 1, 1, none⟩ (.int .i64 a)).alloc (.cells #[.string s, .int .i64 pl] 35) := ⟨_, rfl⟩
          have hb2 := below_up B1.out B2.out B1.out.size
          have hb3 : Below w.heap.size w w3 := by rw [hw3]; exact (below_set2 hb2 (w.heap.size + 1) (by omega) _ _).alloc (below_set2 hb2 (w.heap.size + 1) (by omega) _ _).size _
          obtain ⟨e0, e1⟩ : w3.cell? ⟨w.heap.size + 1, 0, none⟩ = some (.string s) ∧ w3.cell? ⟨w.heap.size + 1, 1, none⟩ = some (.int .i64 a) := by rw [hw3]; exact cells2 (heap_keep (block_set2 k1 _ _) _)
          have HW := Lib.hid hw3; have HB3 := Lib.hid hb3; have E0 := Lib.hid e0; have E1 := Lib.hid e1
          clear hw3 hb3 e0 e1 hb2 k0 k1
          go_wp2
          rw [← HW.out]
          have e0 := E0.out; have e1 := E1.out
          exact bodyPost_ret (v := .tuple #[.agg #[.string s, .int .i64 a], .int .i64 0, .int .i64 1]) (by simp [results, Try.results34, go_sem, e0, e1]) rfl ⟨by rw [HRR.out], HB3.out⟩
        | true =>
          clear k0 k1
          have B3 := Lib.hid (B2.out.alloc B2.out.size (.cells #[.string s, .int .i64 pl] 35))
          go_wp2
          go_loopw [12] (fun m wr => ∃ i : Nat, i ≤ 6 ∧ m = .int .i64 i ∧ (∀ p, p < i → lenC l p = (j : Int) + 1 → ¬ matchC s a l p) ∧ wr = w2.alloc (.cells #[.string s, .int .i64 pl] 35))
            (fun m _ => 6 - (intOf m).toNat)
          case atStart => exact ⟨0, Nat.zero_le _, rfl, fun p hp => absurd hp (by omega), rfl⟩
          case round =>
            obtain ⟨i, hi, rfl, hnm, rfl⟩ := hrel
            have HNM := Lib.hid hnm
            clear hnm
            by_cases hli : i < 6
            · have cl := HC.out i hli
              have hbw2 : b < w2.heap.size := Nat.lt_of_lt_of_le (Nat.lt_of_lt_of_le hb B1.out.size) B2.out.size
              rw [← B1.out.cell (p := ⟨b, off + i, none⟩) hb, ← B2.out.cell (p := ⟨b, off + i, none⟩) (Nat.lt_of_lt_of_le hb B1.out.size)] at cl
              have cc := HC1.out i hli
              have hb1w2 : b1 < w2.heap.size := Nat.lt_of_lt_of_le hb1' B2.out.size
              rw [← B2.out.cell (p := ⟨b1, o1 + i, none⟩) hb1'] at cc
              obtain ⟨n, hn⟩ : ∃ n, n = lenC l i := ⟨_, rfl⟩
              obtain ⟨y, hy⟩ : ∃ y, y = (codeL l).getD i 0 := ⟨_, rfl⟩
              rw [show l.getD i 0 = n from hn.symm] at cl
              rw [← hy] at cc
              have HNN := Lib.hid hn; have HYY := Lib.hid hy
              clear hn hy
              by_cases hnj : n = (j : Int) + 1
              · have hq1 : (n == (j : Int) + 1) = true := by rw [beq_iff_eq]; exact hnj
                have HNJ := Lib.hid hnj; clear hnj
                by_cases hyv : y = v
                · have hq2 : (y == v) = true := by rw [beq_iff_eq]; exact hyv
                  have hmm : matchC s a l i := by
                    unfold matchC
                    rw [← HNN.out, HNJ.out, ← HOK.out, ← HV.out, ← HYY.out, hyv]
                    exact ⟨rfl, rfl⟩
                  have hR := HHIT.out i hli hmm
                  rw [← HNN.out, HNJ.out, ← HPL.out] at hR
                  have HRR := Lib.hid hR
                  have HYV := Lib.hid hyv
                  clear hmm hR hyv
                  have k1 := K1s.out
                  have f1 := frozen_of_row w2 _ 0 _ _ k1
                  have f2 := frozen_of_row w2 _ 1 _ _ k1
                  obtain ⟨d0, d1⟩ := cells2 k1
                  obtain ⟨w3, hw3⟩ : ∃ w3, w3 = ((w2.setCell ⟨w.heap.size + 1, 0, none⟩ (.string s)).setCell ⟨w.heap.size + 1, 1, none⟩ (.int .i64 pl)).alloc (.cells #[.string s, .int .i64 pl] 35) := ⟨_, rfl⟩
                  have hb2 := below_up B1.out B2.out B1.out.size
                  have hb3 : Below w.heap.size w w3 := by rw [hw3]; exact (below_set2 hb2 (w.heap.size + 1) (by omega) _ _).alloc (below_set2 hb2 (w.heap.size + 1) (by omega) _ _).size _
                  obtain ⟨e0, e1⟩ : w3.cell? ⟨w.heap.size + 1, 0, none⟩ = some (.string s) ∧ w3.cell? ⟨w.heap.size + 1, 1, none⟩ = some (.int .i64 pl) := by rw [hw3]; exact cells2 (heap_keep (block_set2 k1 _ _) _)
                  have HW := Lib.hid hw3; have HB3 := Lib.hid hb3; have E0 := Lib.hid e0; have E1 := Lib.hid e1
                  clear hw3 hb3 e0 e1 hb2 k1
                  go_wp2
                  rw [← HW.out]
                  have e0 := E0.out; have e1 := E1.out
                  exact bodyPost_ret (v := .tuple #[.agg #[.string s, .int .i64 pl], .int .i64 i, .int .i64 0]) (by simp [results, Try.results34, go_sem, e0, e1]) rfl ⟨by rw [HRR.out], HB3.out⟩
                · have hq2 : (y == v) = false := by rw [beq_eq_false_iff_ne]; exact hyv
                  have HYV := Lib.hid hyv; clear hyv
                  go_wp2
                  go_roundw
                  case rel =>
                    refine ⟨i + 1, by omega, by go_num, fun p hp hlp hm => ?_, by first | trivial | rfl⟩
                    by_cases e : p = i
                    · subst e
                      have h2 := hm.2
                      rw [← HNN.out, HNJ.out, ← HV.out, ← HYY.out] at h2
                      exact HYV.out h2.symm
                    · exact HNM.out p (by omega) hlp hm
                  case measure => simp [intOf]; omega
              · have hq1 : (n == (j : Int) + 1) = false := by rw [beq_eq_false_iff_ne]; exact hnj
                have HNJ := Lib.hid hnj; clear hnj
                go_wp2
                go_roundw
                case rel =>
                  refine ⟨i + 1, by omega, by go_num, fun p hp hlp hm => ?_, by first | trivial | rfl⟩
                  by_cases e : p = i
                  · subst e
                    rw [← HNN.out] at hlp
                    exact HNJ.out hlp
                  · exact HNM.out p (by omega) hlp hm
                case measure => simp [intOf]; omega
            · obtain rfl : i = 6 := by omega
              go_wp2
              go_roundw
              case rel =>
                refine ⟨j + 1, by omega, by go_num, fun p hp hlp hm => ?_, fun _ => ?_, B3.out⟩
                · by_cases e : lenC l p = (j : Int) + 1
                  · exact HNM.out p hp e hm
                  · exact HN.out p hp (by omega) hm
                · have h := HOK.out
                  rw [show ((j + 1 : Nat) : Int) = (j : Int) + 1 by omega]
                  exact h.symm
              case measure => simp [intOf]; omega
      · exfalso
        obtain rfl : j = 7 := by omega
        obtain ⟨p, hp, hlp, hm⟩ := HSEV.out (HRJ.out (by omega))
        exact HN.out p hp hlp hm
end Go.Proofs.Ytgacldhpohnpaaa
