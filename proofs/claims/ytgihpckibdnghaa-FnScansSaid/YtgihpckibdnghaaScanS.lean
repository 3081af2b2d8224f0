/-
  The law FnScans: the scan visits each place once, and placing inverts scanning. No condition.
-/
import Derived.Test.YtgihpckibdnghaaScanD
namespace Go.Proofs.Ytgihpckibdnghaa
open Go.RowKit
set_option linter.unusedVariables false

theorem eq_of_getD {a b : List Int} (hl : a.length = b.length) (h : ∀ t, t < a.length → a.getD t 0 = b.getD t 0) : a = b :=
  List.ext_getElem hl fun t h1 h2 => by
    have := h t h1
    rw [List.getD_eq_getElem?_getD, List.getD_eq_getElem?_getD, List.getElem?_eq_getElem h1, List.getElem?_eq_getElem h2] at this
    exact this
theorem plN_at (o l : List Int) (K : Nat) (hK : o.length = K) (hin : ∀ j, j < K → ∃ q : Nat, o.getD j 0 = (q : Int) ∧ q < K) (hinj : ∀ i j, i < K → j < K → o.getD i 0 = o.getD j 0 → i = j) :
    ∀ k, k ≤ K → ∀ i, i < k → (plN o l k).getD (o.getD i 0).toNat 0 = l.getD i 0
  | 0, _, i, hi => absurd hi (by omega)
  | k + 1, hk, i, hi => by
    obtain ⟨q, hq, hqK⟩ := hin k (by omega)
    rw [plN, hq, Int.toNat_natCast, List.getD_eq_getElem?_getD]
    by_cases hik : i = k
    · subst hik
      rw [hq, Int.toNat_natCast, List.getElem?_set_self (by rw [plN_len, hK]; exact hqK)]
      rfl
    · obtain ⟨q2, hq2, hq2K⟩ := hin i (by omega)
      have hne : q ≠ q2 := fun e => hik (hinj i k (by omega) (by omega) (by rw [hq, hq2, e]))
      rw [hq2, Int.toNat_natCast, List.getElem?_set_ne hne, ← List.getD_eq_getElem?_getD]
      have := plN_at o l K hK hin hinj k (by omega) i (by omega)
      rw [hq2, Int.toNat_natCast] at this
      exact this
def permB (o : List Int) (K : Nat) : Bool :=
  ((List.range K).all fun t => (List.range K).any fun i => o.getD i 0 == (t : Int)) && ((List.range K).all fun i => (List.range K).all fun j => (o.getD i 0 != o.getD j 0) || i == j)
theorem permB_parts {o : List Int} {K : Nat} (h : permB o K = true) : (∀ t, t < K → ∃ i, i < K ∧ o.getD i 0 = (t : Int)) ∧ (∀ i j, i < K → j < K → o.getD i 0 = o.getD j 0 → i = j) := by
  unfold permB at h
  rw [Bool.and_eq_true, List.all_eq_true, List.all_eq_true] at h
  refine ⟨fun t ht => ?_, fun i j hi hj hij => ?_⟩
  · have := h.1 t (List.mem_range.2 ht)
    rw [List.any_eq_true] at this
    obtain ⟨i, hi, he⟩ := this
    exact ⟨i, List.mem_range.1 hi, by simpa using he⟩
  · have := h.2 i (List.mem_range.2 hi)
    rw [List.all_eq_true] at this
    have := this j (List.mem_range.2 hj)
    rw [hij] at this
    simpa using this
theorem perm4 : permB (scTab 4 7) 16 = true := by decide +kernel
theorem perm8 : permB (scTab 8 15) 64 = true := by decide +kernel
theorem scan_inv {o l : List Int} {K : Nat} (hK : o.length = K) (hl : l.length = K) (hin : ∀ j, j < K → ∃ q : Nat, o.getD j 0 = (q : Int) ∧ q < K) (hp : permB o K = true) :
    plN o (o.map fun p => l.getD p.toNat 0) K = l ∧ (o.map fun p => (plN o l K).getD p.toNat 0) = l := by
  obtain ⟨hsur, hinj⟩ := permB_parts hp
  have hmap : ∀ (f : Int → Int) j, j < K → (o.map f).getD j 0 = f (o.getD j 0) := fun f j hj => by
    rw [List.getD_eq_getElem?_getD, List.getElem?_map, List.getElem?_eq_getElem (by omega), List.getD_eq_getElem?_getD, List.getElem?_eq_getElem (by omega)]
    rfl
  constructor
  · refine eq_of_getD (by rw [plN_len, hK, hl]) fun t ht => ?_
    rw [plN_len, hK] at ht
    obtain ⟨i, hi, he⟩ := hsur t ht
    have h := plN_at o (o.map fun p => l.getD p.toNat 0) K hK hin hinj K (Nat.le_refl _) i hi
    rw [he, Int.toNat_natCast, hmap _ i hi, he, Int.toNat_natCast] at h
    exact h
  · refine eq_of_getD (by rw [List.length_map, hK, hl]) fun t ht => ?_
    rw [List.length_map, hK] at ht
    rw [hmap _ t ht]
    exact plN_at o l K hK hin hinj K (Nat.le_refl _) t ht
theorem square_inv (l : List Int) (h : l.length = 16 ∨ l.length = 64) : plR (scR l) = l ∧ scR (plR l) = l := by
  have key : ∀ K : Nat, l.length = K → (scanL (sideN K)).length = K → permB (scanL (sideN K)) K = true → plR (scR l) = l ∧ scR (plR l) = l := by
    intro K hl hK hp
    have hin : ∀ j, j < K → ∃ q : Nat, (scanL (sideN K)).getD j 0 = (q : Int) ∧ q < K := fun j hj => by
      have := scan_places (sideN K) j (by rw [hK]; exact hj)
      rw [hK] at this
      exact this
    have hi := scan_inv hK hl hin hp
    have e1 : scR l = (scanL (sideN K)).map fun p => l.getD p.toNat 0 := by unfold scR; rw [hl]
    have e2 : (scR l).length = K := by rw [e1, List.length_map, hK]
    have e3 : plR l = plN (scanL (sideN K)) l K := by unfold plR; rw [hl, hK]
    have e4 : (plR l).length = K := by rw [e3, plN_len, hK]
    refine ⟨?_, ?_⟩
    · have : plR (scR l) = plN (scanL (sideN K)) (scR l) K := by unfold plR; rw [e2, hK]
      rw [this, e1]
      exact hi.1
    · have : scR (plR l) = (scanL (sideN K)).map fun p => (plR l).getD p.toNat 0 := by unfold scR; rw [e4]
      rw [this, e3]
      exact hi.2
  rcases h with h | h
  · exact key 16 h scTab4_len perm4
  · exact key 64 h scTab8_len perm8
theorem square_none (l : List Int) (h1 : l.length ≠ 16) (h2 : l.length ≠ 64) : plR (scR l) = [] := by
  have e : scR l = [] := by
    unfold scR sideN
    rw [if_neg h1, if_neg h2]
    rfl
  rw [e]
  rfl
theorem scR_small (l : List Int) : (scR l).length ≤ 281474976710656 := Nat.le_trans (scR_len l) (by decide)
theorem plR_small (l : List Int) : (plR l).length ≤ 281474976710656 := Nat.le_trans (plR_len l) (by decide)

/-- Each step of the scan stays on a diagonal or goes to the next. -/
def nearB (o : List Int) (N : Int) (K : Nat) : Bool :=
  (List.range K).all fun j => (j == 0) || (decide (o.getD j 0 / N + o.getD j 0 % N - o.getD (j - 1) 0 / N - o.getD (j - 1) 0 % N ≤ 1) && decide (o.getD (j - 1) 0 / N + o.getD (j - 1) 0 % N - o.getD j 0 / N - o.getD j 0 % N ≤ 1))
theorem near4 : nearB (scTab 4 7) 4 16 = true := by decide +kernel
theorem near8 : nearB (scTab 8 15) 8 64 = true := by decide +kernel
theorem nearB_at {o : List Int} {N : Int} {K j : Nat} (h : nearB o N K = true) (hj : j < K) (h0 : 0 < j) :
    o.getD j 0 / N + o.getD j 0 % N - o.getD (j - 1) 0 / N - o.getD (j - 1) 0 % N ≤ 1 ∧ o.getD (j - 1) 0 / N + o.getD (j - 1) 0 % N - o.getD j 0 / N - o.getD j 0 % N ≤ 1 := by
  unfold nearB at h
  rw [List.all_eq_true] at h
  have h := h j (List.mem_range.2 hj)
  rw [Bool.or_eq_true, Bool.and_eq_true, decide_eq_true_eq, decide_eq_true_eq] at h
  rcases h with h | h
  · simp at h; omega
  · exact h

set_option maxRecDepth 100000 in
set_option maxHeartbeats 1000000 in
theorem has_true (A : Option Addr) (ca : Nat) (l : List Int) (x : Int) (t : Nat) (ht : t < l.length) (hx : l.getD t 0 = x) (w : World) (hA : Ints w w.heap.size A l) :
    Calls Try.prog 33 #[.slice A l.length ca, .int .i64 x] w fun e w' => e = .returned (.bool true) ∧ w = w' := by
  obtain ⟨n, hn⟩ : ∃ n, n = l.length := ⟨_, rfl⟩
  have hnm := hA.1
  rw [← hn] at hnm ht ⊢
  have HA := Lib.hid hA; have HN := Lib.hid hn; have HX := Lib.hid hx
  clear hA hn hx
  go_enter Try.func33, Try.ntmps33
  go_wp2
  go_loop [5] (fun i => ∃ j : Nat, j ≤ t ∧ i = .int .i64 j) (fun i => n - (intOf i).toNat)
  case atStart => exact ⟨0, Nat.zero_le _, rfl⟩
  case round =>
    obtain ⟨j, hj, rfl⟩ := hrel
    obtain ⟨b, off, rfl, hb, hc⟩ := HA.out.at j (by rw [← HN.out]; omega)
    have c := hc j (by rw [← HN.out]; omega)
    obtain ⟨y, hy⟩ : ∃ y, y = l.getD j 0 := ⟨_, rfl⟩
    rw [← hy] at c
    have HY := Lib.hid hy
    have b1 : decide ((j : Int) < (n : Int)) = true := by simp; omega
    clear hc hy
    by_cases hyx : y = x
    · have q : (y == x) = true := by rw [beq_iff_eq]; exact hyx
      clear hyx
      go_wp2
      go_ret
      exact ⟨rfl, rfl⟩
    · have q : (y == x) = false := by rw [beq_eq_false_iff_ne]; exact hyx
      have hjt : j + 1 ≤ t := by
        by_cases hjt : j = t
        · exact absurd (by rw [HY.out, hjt]; exact HX.out) hyx
        · omega
      clear hyx
      go_wp2
      go_round
      case rel => exact ⟨j + 1, hjt, by go_num⟩
      case measure => simp [intOf]; omega

set_option maxRecDepth 100000 in
set_option maxHeartbeats 4000000 in
theorem scans_4 (a : Option Addr) (cap : Nat) (ys : List Int) (n : Nat) (hbF : decide (1048576 < (n : Int)) = false) (w : World) (hW : Code w a ys)
    (BG : Hid (∀ w, Calls Try.prog 10 #[.slice a n cap] w fun e w' => e = .returned (.bool (decide (1048576 < (n : Int)))) ∧ w = w'))
    (DO : Hid (Calls Try.prog 29 #[.slice a n cap] w fun e w' => e = .returned (.int .i64 4) ∧ Below w.heap.size w w'))
    (DR : Hid (∀ w, Code w a ys → Calls Try.prog 34 #[.slice a n cap] w fun e w' => ∃ (l : List Int) (A' : Option Addr) (c : Nat), e = .returned (.slice A' l.length c) ∧ l.length ≤ 64 ∧ Ints w' w'.heap.size A' l ∧ Below w.heap.size w w')) :
    Calls Try.prog 7 #[.slice a n cap] w fun e w' => e = .returned (.bool true) ∧ Below w.heap.size w w' := by
  have HW := Lib.hid hW
  have IM := Lib.hid (impl_scan_4)
  have SP := Lib.hid (spec_scan_4)
  have SZ := Lib.hid (impl_sizeok_any 4)
  rw [show okN 4 = true from rfl] at SZ
  have HS := Lib.hid has_true
  have SM := Lib.hid @sameints_any
  have hperm := Lib.hid (permB_parts perm4).1
  have hnear := Lib.hid (fun j hj h0 => nearB_at (j := j) near4 hj h0)
  have hlen := Lib.hid scTab4_len
  have hpl := Lib.hid (scan_places 4)
  have hsc : scanL 4 = scTab 4 7 := rfl
  rw [hsc] at hpl
  rw [scTab4_len] at hpl IM SP
  obtain ⟨o, ho⟩ : ∃ o, o = scTab 4 7 := ⟨_, rfl⟩
  rw [← ho] at IM SP hperm hnear hlen hpl
  clear hsc ho hW
  go_enter Try.func7, Try.ntmps7
  go_wp2_with fail
  refine (BG.out _).mono ?_
  rintro e w1 ⟨rfl, hw⟩
  subst hw
  go_wp2_with fail
  refine DO.out.mono ?_
  rintro e w2 ⟨rfl, hb2⟩
  have B2 := Lib.hid hb2; clear hb2
  go_wp2_with fail
  refine (IM.out _).mono ?_
  rintro e w3 ⟨A3, c3, rfl, ho3, hb3⟩
  have I3 := Lib.hid (ho3.ints (by rw [hlen.out]; decide))
  have B3 := Lib.hid (below_up B2.out hb3 B2.out.size)
  clear ho3 hb3
  go_wp2_with fail
  refine (SZ.out _).mono ?_
  rintro e w4 ⟨rfl, hw⟩
  subst hw
  go_wp2_with fail
  refine (SP.out _).mono ?_
  rintro e w5 ⟨A5, c5, rfl, ho5, hb5⟩
  have I5 := Lib.hid (ho5.ints (by rw [hlen.out]; decide))
  have I3b := Lib.hid ((I3.out.below hb5 (Nat.le_refl _)).mono hb5.size)
  have B5 := Lib.hid (below_up B3.out hb5 B3.out.size)
  clear ho5 hb5 I3
  have SMx := SM.out A3 A5 c3 c5 o o w5 I3b.out I5.out
  rw [hlen.out] at SMx
  have SMy := Lib.hid SMx
  clear SMx
  go_wp2_with fail
  refine SMy.out.mono ?_
  rintro e w6 ⟨rfl, hb6⟩
  have I6 := Lib.hid ((I3b.out.below hb6 (Nat.le_refl _)).mono hb6.size)
  have B6 := Lib.hid (below_up B5.out hb6 B5.out.size)
  clear hb6 I3b I5 SMy
  have hdec : decide (o = o) = true := by simp
  go_wp2
  go_loopw [5] (fun i wr => ∃ j : Nat, j ≤ 16 ∧ i = .int .i64 j ∧ Ints wr wr.heap.size A3 o ∧ Below w.heap.size w wr) (fun i _ => 16 - (intOf i).toNat)
  case atStart => exact ⟨0, Nat.zero_le _, rfl, I6.out, B6.out⟩
  case round =>
    obtain ⟨j, hj, rfl, hI, hB⟩ := hrel
    have I7 := Lib.hid hI; have B7 := Lib.hid hB
    have I7k : Hid (∀ k, Ints (wr.drewN k) (wr.drewN k).heap.size A3 o) := Lib.hid (fun k => hI.kept (fun _ _ => rfl))
    have B7k : Hid (∀ k, Below w.heap.size w (wr.drewN k)) := Lib.hid (fun k => ⟨hB.os, hB.tape, hB.output, hB.size, hB.block⟩)
    clear hI hB
    by_cases hlt : j < 16
    · have b1 : decide ((j : Int) < 16) = true := by simp; omega
      obtain ⟨t, ht, htx⟩ := hperm.out j hlt
      have HSx := fun k => HS.out A3 c3 o (j : Int) t (by rw [hlen.out]; exact ht) htx (wr.drewN k) (I7k.out k)
      rw [hlen.out] at HSx
      have HSy := Lib.hid HSx
      clear HSx
      by_cases h0 : 0 < j
      · have b2 : decide ((0 : Int) < (j : Int)) = true := by simp; omega
        obtain ⟨q, hq, hqK⟩ := hpl.out j hlt
        obtain ⟨p, hp, hpK⟩ := hpl.out (j - 1) (by omega)
        obtain ⟨n1, n2⟩ := hnear.out j hlt h0
        rw [hq, hp] at n1 n2
        obtain ⟨b, off, rfl, hb, hc⟩ := I7.out.at j (by rw [hlen.out]; exact hlt)
        have c1 := hc j (by rw [hlen.out]; exact hlt)
        have c2 := hc (j - 1) (by rw [hlen.out]; omega)
        rw [hq] at c1
        rw [hp] at c2
        obtain ⟨m, hm⟩ : ∃ m : Nat, m = j - 1 := ⟨_, rfl⟩
        rw [← hm] at c2
        have hw1 : IntKind.i64.wrap ((j : Int) - 1) = (m : Int) := by rw [IntKind.wrap_i64]; omega
        have hjI0 : (0 : Int) ≤ (j : Int) := by omega
        have hjI : (j : Int) < 16 := by omega
        have hjT : (j : Int).toNat = j := by omega
        have hmI0 : (0 : Int) ≤ (m : Int) := by omega
        have hmI : (m : Int) < 16 := by omega
        have hmT : (m : Int).toNat = m := by omega
        have q1 : (q : Int).tdiv 4 = (q : Int) / 4 := Int.tdiv_eq_ediv_of_nonneg (by omega)
        have q2 : (q : Int).tmod 4 = (q : Int) % 4 := Int.tmod_eq_emod_of_nonneg (by omega)
        have p1 : (p : Int).tdiv 4 = (p : Int) / 4 := Int.tdiv_eq_ediv_of_nonneg (by omega)
        have p2 : (p : Int).tmod 4 = (p : Int) % 4 := Int.tmod_eq_emod_of_nonneg (by omega)
        have hmx : decide ((1 : Int) < max ((q : Int) / 4 + (q : Int) % 4 - (p : Int) / 4 - (p : Int) % 4) ((p : Int) / 4 + (p : Int) % 4 - (q : Int) / 4 - (q : Int) % 4)) = false := by
          rw [decide_eq_false_iff_not]
          omega
        clear hc hq hp hm n1 n2
        go_wp2
        refine Go.wp_region_quiet_lit (by kernel_rfl) (by kernel_rfl) ?_
        simp only [List.cons_append, List.nil_append, List.append_eq]
        repeat (go_big_quiet_step ((go_at_call 33; exact Calls.quiet_of_same ((HSy.out _).mono fun _ _ h => ⟨h.1, h.2.symm⟩))))
        refine wpQuiet_nil ?_
        intro _ hw'
        obtain ⟨nq, hw''⟩ := hw'
        subst hw''
        go_wp2
        go_roundw
        case rel => exact ⟨j + 1, by omega, by go_num, I7k.out _, B7k.out _⟩
        case measure => simp [intOf]; omega
      · obtain rfl : j = 0 := by omega
        have HS0 : Hid (∀ k, Calls Try.prog 33 #[.slice A3 16 c3, .int .i64 0] (wr.drewN k) fun e w' => e = .returned (.bool true) ∧ wr.drewN k = w') := Lib.hid (fun k => HSy.out k)
        have b2 : decide ((0 : Int) < (0 : Int)) = false := rfl
        clear h0 hlt HSy b1
        go_wp2
        refine Go.wp_region_quiet_lit (by kernel_rfl) (by kernel_rfl) ?_
        simp only [List.cons_append, List.nil_append, List.append_eq]
        repeat (go_big_quiet_step ((go_at_call 33; exact Calls.quiet_of_same ((HS0.out _).mono fun _ _ h => ⟨h.1, h.2.symm⟩))))
        refine wpQuiet_nil ?_
        intro _ hw'
        obtain ⟨nq, hw''⟩ := hw'
        subst hw''
        go_wp2
        go_roundw
        case rel => exact ⟨1, by omega, by go_num, I7k.out _, B7k.out _⟩
        case measure => simp [intOf]
    · obtain rfl : j = 16 := by omega
      clear hperm hnear hpl hlen
      have HW8 := Lib.hid (HW.out.below B7.out)
      go_wp2_with fail
      refine (DR.out _ HW8.out).mono ?_
      rintro e w11 ⟨l, A11, c11, rfl, hl, hI, hb⟩
      have I11 := Lib.hid hI
      have B11 := Lib.hid (below_up B7.out hb B7.out.size)
      clear hI hb HW8
      have SCN := Lib.hid (fun A ca => impl_scanned_any A ca l)
      have PL1 := Lib.hid (fun A ca => impl_placed_any A ca (scR l))
      have PL2 := Lib.hid (fun A ca => impl_placed_any A ca l)
      have SC2 := Lib.hid (fun A ca => impl_scanned_any A ca (plR l))
      have hinv := Lib.hid (square_inv l)
      have hnone := Lib.hid (square_none l)
      have s1 := Lib.hid (scR_small l)
      have s2 := Lib.hid (plR_small l)
      have s3 := Lib.hid (plR_small (scR l))
      have s4 := Lib.hid (scR_small (plR l))
      obtain ⟨aa, ha⟩ : ∃ a, a = scR l := ⟨_, rfl⟩
      obtain ⟨p, hp⟩ : ∃ p, p = plR l := ⟨_, rfl⟩
      rw [← ha] at SCN PL1 hinv hnone s1 s3
      rw [← hp] at PL2 SC2 hinv s2 s4
      obtain ⟨x, hx⟩ : ∃ x, x = plR aa := ⟨_, rfl⟩
      obtain ⟨y, hy⟩ : ∃ y, y = scR p := ⟨_, rfl⟩
      rw [← hx] at PL1 hinv hnone s3
      rw [← hy] at SC2 hinv s4
      clear ha hp hx hy
      obtain ⟨N, hN⟩ : ∃ N, N = l.length := ⟨_, rfl⟩
      have SMx := Lib.hid (fun A B ca cb w => @sameints_any A B ca cb x l w)
      have SMy := Lib.hid (fun A B ca cb w => @sameints_any A B ca cb y l w)
      rw [← hN] at SCN PL2 hinv hnone hl SMx SMy ⊢
      clear hN
      go_wp2_with fail
      refine (SCN.out _ _ _ I11.out).mono ?_
      rintro e w12 ⟨A12, c12, rfl, ho12, hb12⟩
      have I12 := Lib.hid (ho12.ints s1.out)
      have I11b := Lib.hid ((I11.out.below hb12 (Nat.le_refl _)).mono hb12.size)
      have B12 := Lib.hid (below_up B11.out hb12 B11.out.size)
      clear ho12 hb12 I11
      go_wp2_with fail
      refine (PL1.out _ _ _ I12.out).mono ?_
      rintro e w13 ⟨A13, c13, rfl, ho13, hb13⟩
      have I13 := Lib.hid (ho13.ints s3.out)
      have I11c := Lib.hid ((I11b.out.below hb13 (Nat.le_refl _)).mono hb13.size)
      have B13 := Lib.hid (below_up B12.out hb13 B12.out.size)
      clear ho13 hb13 I12 I11b
      by_cases h16 : N = 16 ∨ N = 64
      · obtain ⟨e1, e2⟩ := hinv.out h16
        have d1 : decide (x = l) = true := decide_eq_true e1
        have d2 : decide (y = l) = true := decide_eq_true e2
        clear e1 e2
        have q1 : (((N : Int) != 16) && ((N : Int) != 64)) = false := by
          rcases h16 with rfl | rfl <;> rfl
        rcases h16 with rfl | rfl
        · have z16 : (((16 : Nat) : Int) != 16) = false := rfl
          clear q1
          go_wp2_with fail
          refine (SMx.out _ _ _ _ _ I13.out I11c.out).mono ?_
          rintro e w14 ⟨rfl, hb14⟩
          have I11d := Lib.hid ((I11c.out.below hb14 (Nat.le_refl _)).mono hb14.size)
          have B14 := Lib.hid (below_up B13.out hb14 B13.out.size)
          clear hb14 I13 I11c
          go_wp2_with fail
          refine (PL2.out _ _ _ I11d.out).mono ?_
          rintro e w15 ⟨A15, c15, rfl, ho15, hb15⟩
          have I15 := Lib.hid (ho15.ints s2.out)
          have I11e := Lib.hid ((I11d.out.below hb15 (Nat.le_refl _)).mono hb15.size)
          have B15 := Lib.hid (below_up B14.out hb15 B14.out.size)
          clear ho15 hb15 I11d
          go_wp2_with fail
          refine (SC2.out _ _ _ I15.out).mono ?_
          rintro e w16 ⟨A16, c16, rfl, ho16, hb16⟩
          have I16 := Lib.hid (ho16.ints s4.out)
          have I11f := Lib.hid ((I11e.out.below hb16 (Nat.le_refl _)).mono hb16.size)
          have B16 := Lib.hid (below_up B15.out hb16 B15.out.size)
          clear ho16 hb16 I11e I15
          go_wp2_with fail
          refine (SMy.out _ _ _ _ _ I16.out I11f.out).mono ?_
          rintro e w17 ⟨rfl, hb17⟩
          have B17 := Lib.hid (below_up B16.out hb17 B16.out.size)
          clear hb17 I16 I11f
          go_wp2
          go_ret
          exact ⟨rfl, B17.out⟩
        · have z16 : (((16 : Nat) : Int) != 16) = false := rfl
          clear q1
          go_wp2_with fail
          refine (SMx.out _ _ _ _ _ I13.out I11c.out).mono ?_
          rintro e w14 ⟨rfl, hb14⟩
          have I11d := Lib.hid ((I11c.out.below hb14 (Nat.le_refl _)).mono hb14.size)
          have B14 := Lib.hid (below_up B13.out hb14 B13.out.size)
          clear hb14 I13 I11c
          go_wp2_with fail
          refine (PL2.out _ _ _ I11d.out).mono ?_
          rintro e w15 ⟨A15, c15, rfl, ho15, hb15⟩
          have I15 := Lib.hid (ho15.ints s2.out)
          have I11e := Lib.hid ((I11d.out.below hb15 (Nat.le_refl _)).mono hb15.size)
          have B15 := Lib.hid (below_up B14.out hb15 B14.out.size)
          clear ho15 hb15 I11d
          go_wp2_with fail
          refine (SC2.out _ _ _ I15.out).mono ?_
          rintro e w16 ⟨A16, c16, rfl, ho16, hb16⟩
          have I16 := Lib.hid (ho16.ints s4.out)
          have I11f := Lib.hid ((I11e.out.below hb16 (Nat.le_refl _)).mono hb16.size)
          have B16 := Lib.hid (below_up B15.out hb16 B15.out.size)
          clear ho16 hb16 I11e I15
          go_wp2_with fail
          refine (SMy.out _ _ _ _ _ I16.out I11f.out).mono ?_
          rintro e w17 ⟨rfl, hb17⟩
          have B17 := Lib.hid (below_up B16.out hb17 B16.out.size)
          clear hb17 I16 I11f
          go_wp2
          go_ret
          exact ⟨rfl, B17.out⟩
      · have hx0 := hnone.out (fun e => h16 (.inl e)) (fun e => h16 (.inr e))
        have n16 : ((N : Int) != 16) = true := by rw [bne_iff_ne]; omega
        have n64 : ((N : Int) != 64) = true := by rw [bne_iff_ne]; omega
        subst hx0
        clear h16 hinv hnone
        go_wp2
        go_ret
        exact ⟨rfl, B13.out⟩

set_option maxRecDepth 100000 in
set_option maxHeartbeats 4000000 in
theorem scans_8 (a : Option Addr) (cap : Nat) (ys : List Int) (n : Nat) (hbF : decide (1048576 < (n : Int)) = false) (w : World) (hW : Code w a ys)
    (BG : Hid (∀ w, Calls Try.prog 10 #[.slice a n cap] w fun e w' => e = .returned (.bool (decide (1048576 < (n : Int)))) ∧ w = w'))
    (DO : Hid (Calls Try.prog 29 #[.slice a n cap] w fun e w' => e = .returned (.int .i64 8) ∧ Below w.heap.size w w'))
    (DR : Hid (∀ w, Code w a ys → Calls Try.prog 34 #[.slice a n cap] w fun e w' => ∃ (l : List Int) (A' : Option Addr) (c : Nat), e = .returned (.slice A' l.length c) ∧ l.length ≤ 64 ∧ Ints w' w'.heap.size A' l ∧ Below w.heap.size w w')) :
    Calls Try.prog 7 #[.slice a n cap] w fun e w' => e = .returned (.bool true) ∧ Below w.heap.size w w' := by
  have HW := Lib.hid hW
  have IM := Lib.hid (impl_scan_8)
  have SP := Lib.hid (spec_scan_8)
  have SZ := Lib.hid (impl_sizeok_any 8)
  rw [show okN 8 = true from rfl] at SZ
  have HS := Lib.hid has_true
  have SM := Lib.hid @sameints_any
  have hperm := Lib.hid (permB_parts perm8).1
  have hnear := Lib.hid (fun j hj h0 => nearB_at (j := j) near8 hj h0)
  have hlen := Lib.hid scTab8_len
  have hpl := Lib.hid (scan_places 8)
  have hsc : scanL 8 = scTab 8 15 := rfl
  rw [hsc] at hpl
  rw [scTab8_len] at hpl IM SP
  obtain ⟨o, ho⟩ : ∃ o, o = scTab 8 15 := ⟨_, rfl⟩
  rw [← ho] at IM SP hperm hnear hlen hpl
  clear hsc ho hW
  go_enter Try.func7, Try.ntmps7
  go_wp2_with fail
  refine (BG.out _).mono ?_
  rintro e w1 ⟨rfl, hw⟩
  subst hw
  go_wp2_with fail
  refine DO.out.mono ?_
  rintro e w2 ⟨rfl, hb2⟩
  have B2 := Lib.hid hb2; clear hb2
  go_wp2_with fail
  refine (IM.out _).mono ?_
  rintro e w3 ⟨A3, c3, rfl, ho3, hb3⟩
  have I3 := Lib.hid (ho3.ints (by rw [hlen.out]; decide))
  have B3 := Lib.hid (below_up B2.out hb3 B2.out.size)
  clear ho3 hb3
  go_wp2_with fail
  refine (SZ.out _).mono ?_
  rintro e w4 ⟨rfl, hw⟩
  subst hw
  go_wp2_with fail
  refine (SP.out _).mono ?_
  rintro e w5 ⟨A5, c5, rfl, ho5, hb5⟩
  have I5 := Lib.hid (ho5.ints (by rw [hlen.out]; decide))
  have I3b := Lib.hid ((I3.out.below hb5 (Nat.le_refl _)).mono hb5.size)
  have B5 := Lib.hid (below_up B3.out hb5 B3.out.size)
  clear ho5 hb5 I3
  have SMx := SM.out A3 A5 c3 c5 o o w5 I3b.out I5.out
  rw [hlen.out] at SMx
  have SMy := Lib.hid SMx
  clear SMx
  go_wp2_with fail
  refine SMy.out.mono ?_
  rintro e w6 ⟨rfl, hb6⟩
  have I6 := Lib.hid ((I3b.out.below hb6 (Nat.le_refl _)).mono hb6.size)
  have B6 := Lib.hid (below_up B5.out hb6 B5.out.size)
  clear hb6 I3b I5 SMy
  have hdec : decide (o = o) = true := by simp
  go_wp2
  go_loopw [5] (fun i wr => ∃ j : Nat, j ≤ 64 ∧ i = .int .i64 j ∧ Ints wr wr.heap.size A3 o ∧ Below w.heap.size w wr) (fun i _ => 64 - (intOf i).toNat)
  case atStart => exact ⟨0, Nat.zero_le _, rfl, I6.out, B6.out⟩
  case round =>
    obtain ⟨j, hj, rfl, hI, hB⟩ := hrel
    have I7 := Lib.hid hI; have B7 := Lib.hid hB
    have I7k : Hid (∀ k, Ints (wr.drewN k) (wr.drewN k).heap.size A3 o) := Lib.hid (fun k => hI.kept (fun _ _ => rfl))
    have B7k : Hid (∀ k, Below w.heap.size w (wr.drewN k)) := Lib.hid (fun k => ⟨hB.os, hB.tape, hB.output, hB.size, hB.block⟩)
    clear hI hB
    by_cases hlt : j < 64
    · have b1 : decide ((j : Int) < 64) = true := by simp; omega
      obtain ⟨t, ht, htx⟩ := hperm.out j hlt
      have HSx := fun k => HS.out A3 c3 o (j : Int) t (by rw [hlen.out]; exact ht) htx (wr.drewN k) (I7k.out k)
      rw [hlen.out] at HSx
      have HSy := Lib.hid HSx
      clear HSx
      by_cases h0 : 0 < j
      · have b2 : decide ((0 : Int) < (j : Int)) = true := by simp; omega
        obtain ⟨q, hq, hqK⟩ := hpl.out j hlt
        obtain ⟨p, hp, hpK⟩ := hpl.out (j - 1) (by omega)
        obtain ⟨n1, n2⟩ := hnear.out j hlt h0
        rw [hq, hp] at n1 n2
        obtain ⟨b, off, rfl, hb, hc⟩ := I7.out.at j (by rw [hlen.out]; exact hlt)
        have c1 := hc j (by rw [hlen.out]; exact hlt)
        have c2 := hc (j - 1) (by rw [hlen.out]; omega)
        rw [hq] at c1
        rw [hp] at c2
        obtain ⟨m, hm⟩ : ∃ m : Nat, m = j - 1 := ⟨_, rfl⟩
        rw [← hm] at c2
        have hw1 : IntKind.i64.wrap ((j : Int) - 1) = (m : Int) := by rw [IntKind.wrap_i64]; omega
        have hjI0 : (0 : Int) ≤ (j : Int) := by omega
        have hjI : (j : Int) < 64 := by omega
        have hjT : (j : Int).toNat = j := by omega
        have hmI0 : (0 : Int) ≤ (m : Int) := by omega
        have hmI : (m : Int) < 64 := by omega
        have hmT : (m : Int).toNat = m := by omega
        have q1 : (q : Int).tdiv 8 = (q : Int) / 8 := Int.tdiv_eq_ediv_of_nonneg (by omega)
        have q2 : (q : Int).tmod 8 = (q : Int) % 8 := Int.tmod_eq_emod_of_nonneg (by omega)
        have p1 : (p : Int).tdiv 8 = (p : Int) / 8 := Int.tdiv_eq_ediv_of_nonneg (by omega)
        have p2 : (p : Int).tmod 8 = (p : Int) % 8 := Int.tmod_eq_emod_of_nonneg (by omega)
        have hmx : decide ((1 : Int) < max ((q : Int) / 8 + (q : Int) % 8 - (p : Int) / 8 - (p : Int) % 8) ((p : Int) / 8 + (p : Int) % 8 - (q : Int) / 8 - (q : Int) % 8)) = false := by
          rw [decide_eq_false_iff_not]
          omega
        clear hc hq hp hm n1 n2
        go_wp2
        refine Go.wp_region_quiet_lit (by kernel_rfl) (by kernel_rfl) ?_
        simp only [List.cons_append, List.nil_append, List.append_eq]
        repeat (go_big_quiet_step ((go_at_call 33; exact Calls.quiet_of_same ((HSy.out _).mono fun _ _ h => ⟨h.1, h.2.symm⟩))))
        refine wpQuiet_nil ?_
        intro _ hw'
        obtain ⟨nq, hw''⟩ := hw'
        subst hw''
        go_wp2
        go_roundw
        case rel => exact ⟨j + 1, by omega, by go_num, I7k.out _, B7k.out _⟩
        case measure => simp [intOf]; omega
      · obtain rfl : j = 0 := by omega
        have HS0 : Hid (∀ k, Calls Try.prog 33 #[.slice A3 64 c3, .int .i64 0] (wr.drewN k) fun e w' => e = .returned (.bool true) ∧ wr.drewN k = w') := Lib.hid (fun k => HSy.out k)
        have b2 : decide ((0 : Int) < (0 : Int)) = false := rfl
        clear h0 hlt HSy b1
        go_wp2
        refine Go.wp_region_quiet_lit (by kernel_rfl) (by kernel_rfl) ?_
        simp only [List.cons_append, List.nil_append, List.append_eq]
        repeat (go_big_quiet_step ((go_at_call 33; exact Calls.quiet_of_same ((HS0.out _).mono fun _ _ h => ⟨h.1, h.2.symm⟩))))
        refine wpQuiet_nil ?_
        intro _ hw'
        obtain ⟨nq, hw''⟩ := hw'
        subst hw''
        go_wp2
        go_roundw
        case rel => exact ⟨1, by omega, by go_num, I7k.out _, B7k.out _⟩
        case measure => simp [intOf]
    · obtain rfl : j = 64 := by omega
      clear hperm hnear hpl hlen
      have HW8 := Lib.hid (HW.out.below B7.out)
      go_wp2_with fail
      refine (DR.out _ HW8.out).mono ?_
      rintro e w11 ⟨l, A11, c11, rfl, hl, hI, hb⟩
      have I11 := Lib.hid hI
      have B11 := Lib.hid (below_up B7.out hb B7.out.size)
      clear hI hb HW8
      have SCN := Lib.hid (fun A ca => impl_scanned_any A ca l)
      have PL1 := Lib.hid (fun A ca => impl_placed_any A ca (scR l))
      have PL2 := Lib.hid (fun A ca => impl_placed_any A ca l)
      have SC2 := Lib.hid (fun A ca => impl_scanned_any A ca (plR l))
      have hinv := Lib.hid (square_inv l)
      have hnone := Lib.hid (square_none l)
      have s1 := Lib.hid (scR_small l)
      have s2 := Lib.hid (plR_small l)
      have s3 := Lib.hid (plR_small (scR l))
      have s4 := Lib.hid (scR_small (plR l))
      obtain ⟨aa, ha⟩ : ∃ a, a = scR l := ⟨_, rfl⟩
      obtain ⟨p, hp⟩ : ∃ p, p = plR l := ⟨_, rfl⟩
      rw [← ha] at SCN PL1 hinv hnone s1 s3
      rw [← hp] at PL2 SC2 hinv s2 s4
      obtain ⟨x, hx⟩ : ∃ x, x = plR aa := ⟨_, rfl⟩
      obtain ⟨y, hy⟩ : ∃ y, y = scR p := ⟨_, rfl⟩
      rw [← hx] at PL1 hinv hnone s3
      rw [← hy] at SC2 hinv s4
      clear ha hp hx hy
      obtain ⟨N, hN⟩ : ∃ N, N = l.length := ⟨_, rfl⟩
      have SMx := Lib.hid (fun A B ca cb w => @sameints_any A B ca cb x l w)
      have SMy := Lib.hid (fun A B ca cb w => @sameints_any A B ca cb y l w)
      rw [← hN] at SCN PL2 hinv hnone hl SMx SMy ⊢
      clear hN
      go_wp2_with fail
      refine (SCN.out _ _ _ I11.out).mono ?_
      rintro e w12 ⟨A12, c12, rfl, ho12, hb12⟩
      have I12 := Lib.hid (ho12.ints s1.out)
      have I11b := Lib.hid ((I11.out.below hb12 (Nat.le_refl _)).mono hb12.size)
      have B12 := Lib.hid (below_up B11.out hb12 B11.out.size)
      clear ho12 hb12 I11
      go_wp2_with fail
      refine (PL1.out _ _ _ I12.out).mono ?_
      rintro e w13 ⟨A13, c13, rfl, ho13, hb13⟩
      have I13 := Lib.hid (ho13.ints s3.out)
      have I11c := Lib.hid ((I11b.out.below hb13 (Nat.le_refl _)).mono hb13.size)
      have B13 := Lib.hid (below_up B12.out hb13 B12.out.size)
      clear ho13 hb13 I12 I11b
      by_cases h16 : N = 16 ∨ N = 64
      · obtain ⟨e1, e2⟩ := hinv.out h16
        have d1 : decide (x = l) = true := decide_eq_true e1
        have d2 : decide (y = l) = true := decide_eq_true e2
        clear e1 e2
        have q1 : (((N : Int) != 16) && ((N : Int) != 64)) = false := by
          rcases h16 with rfl | rfl <;> rfl
        rcases h16 with rfl | rfl
        · have z16 : (((16 : Nat) : Int) != 16) = false := rfl
          clear q1
          go_wp2_with fail
          refine (SMx.out _ _ _ _ _ I13.out I11c.out).mono ?_
          rintro e w14 ⟨rfl, hb14⟩
          have I11d := Lib.hid ((I11c.out.below hb14 (Nat.le_refl _)).mono hb14.size)
          have B14 := Lib.hid (below_up B13.out hb14 B13.out.size)
          clear hb14 I13 I11c
          go_wp2_with fail
          refine (PL2.out _ _ _ I11d.out).mono ?_
          rintro e w15 ⟨A15, c15, rfl, ho15, hb15⟩
          have I15 := Lib.hid (ho15.ints s2.out)
          have I11e := Lib.hid ((I11d.out.below hb15 (Nat.le_refl _)).mono hb15.size)
          have B15 := Lib.hid (below_up B14.out hb15 B14.out.size)
          clear ho15 hb15 I11d
          go_wp2_with fail
          refine (SC2.out _ _ _ I15.out).mono ?_
          rintro e w16 ⟨A16, c16, rfl, ho16, hb16⟩
          have I16 := Lib.hid (ho16.ints s4.out)
          have I11f := Lib.hid ((I11e.out.below hb16 (Nat.le_refl _)).mono hb16.size)
          have B16 := Lib.hid (below_up B15.out hb16 B15.out.size)
          clear ho16 hb16 I11e I15
          go_wp2_with fail
          refine (SMy.out _ _ _ _ _ I16.out I11f.out).mono ?_
          rintro e w17 ⟨rfl, hb17⟩
          have B17 := Lib.hid (below_up B16.out hb17 B16.out.size)
          clear hb17 I16 I11f
          go_wp2
          go_ret
          exact ⟨rfl, B17.out⟩
        · have z16 : (((16 : Nat) : Int) != 16) = false := rfl
          clear q1
          go_wp2_with fail
          refine (SMx.out _ _ _ _ _ I13.out I11c.out).mono ?_
          rintro e w14 ⟨rfl, hb14⟩
          have I11d := Lib.hid ((I11c.out.below hb14 (Nat.le_refl _)).mono hb14.size)
          have B14 := Lib.hid (below_up B13.out hb14 B13.out.size)
          clear hb14 I13 I11c
          go_wp2_with fail
          refine (PL2.out _ _ _ I11d.out).mono ?_
          rintro e w15 ⟨A15, c15, rfl, ho15, hb15⟩
          have I15 := Lib.hid (ho15.ints s2.out)
          have I11e := Lib.hid ((I11d.out.below hb15 (Nat.le_refl _)).mono hb15.size)
          have B15 := Lib.hid (below_up B14.out hb15 B14.out.size)
          clear ho15 hb15 I11d
          go_wp2_with fail
          refine (SC2.out _ _ _ I15.out).mono ?_
          rintro e w16 ⟨A16, c16, rfl, ho16, hb16⟩
          have I16 := Lib.hid (ho16.ints s4.out)
          have I11f := Lib.hid ((I11e.out.below hb16 (Nat.le_refl _)).mono hb16.size)
          have B16 := Lib.hid (below_up B15.out hb16 B15.out.size)
          clear ho16 hb16 I11e I15
          go_wp2_with fail
          refine (SMy.out _ _ _ _ _ I16.out I11f.out).mono ?_
          rintro e w17 ⟨rfl, hb17⟩
          have B17 := Lib.hid (below_up B16.out hb17 B16.out.size)
          clear hb17 I16 I11f
          go_wp2
          go_ret
          exact ⟨rfl, B17.out⟩
      · have hx0 := hnone.out (fun e => h16 (.inl e)) (fun e => h16 (.inr e))
        have n16 : ((N : Int) != 16) = true := by rw [bne_iff_ne]; omega
        have n64 : ((N : Int) != 64) = true := by rw [bne_iff_ne]; omega
        subst hx0
        clear h16 hinv hnone
        go_wp2
        go_ret
        exact ⟨rfl, B13.out⟩

set_option maxRecDepth 100000 in
set_option maxHeartbeats 4000000 in
theorem scans_bad (a : Option Addr) (cap : Nat) (ys : List Int) (n : Nat) (hbF : decide (1048576 < (n : Int)) = false) (w : World) (hW : Code w a ys) (v : Int) (hv : (Lit.int .i64 v).wf = true) (hok : okN v = false)
    (BG : Hid (∀ w, Calls Try.prog 10 #[.slice a n cap] w fun e w' => e = .returned (.bool (decide (1048576 < (n : Int)))) ∧ w = w'))
    (DO : Hid (Calls Try.prog 29 #[.slice a n cap] w fun e w' => e = .returned (.int .i64 v) ∧ Below w.heap.size w w'))
    (DR : Hid (∀ w, Code w a ys → Calls Try.prog 34 #[.slice a n cap] w fun e w' => ∃ (l : List Int) (A' : Option Addr) (c : Nat), e = .returned (.slice A' l.length c) ∧ l.length ≤ 64 ∧ Ints w' w'.heap.size A' l ∧ Below w.heap.size w w')) :
    Calls Try.prog 7 #[.slice a n cap] w fun e w' => e = .returned (.bool true) ∧ Below w.heap.size w w' := by
  have HW := Lib.hid hW
  have IM := Lib.hid (impl_scan_any v hv)
  have SP := Lib.hid (spec_scan_any v hv)
  have SZ := Lib.hid (impl_sizeok_any v)
  rw [hok] at SZ
  rw [scanL_bad hok] at IM SP
  have SM := Lib.hid @sameints_any
  obtain ⟨h4, h8⟩ := okN_no hok
  have n4 : (v == 4) = false := by rw [beq_eq_false_iff_ne]; exact h4
  have n8 : (v == 8) = false := by rw [beq_eq_false_iff_ne]; exact h8
  clear hok h4 h8 hW hv
  go_enter Try.func7, Try.ntmps7
  go_wp2_with fail
  refine (BG.out _).mono ?_
  rintro e w1 ⟨rfl, hw⟩
  subst hw
  go_wp2_with fail
  refine DO.out.mono ?_
  rintro e w2 ⟨rfl, hb2⟩
  have B2 := Lib.hid hb2; clear hb2
  go_wp2_with fail
  refine (IM.out _).mono ?_
  rintro e w3 ⟨A3, c3, rfl, ho3, hb3⟩
  have I3 := Lib.hid (ho3.ints (by decide))
  have B3 := Lib.hid (below_up B2.out hb3 B2.out.size)
  clear ho3 hb3
  go_wp2_with fail
  refine (SZ.out _).mono ?_
  rintro e w4 ⟨rfl, hw⟩
  subst hw
  go_wp2_with fail
  refine (SP.out _).mono ?_
  rintro e w5 ⟨A5, c5, rfl, ho5, hb5⟩
  have I5 := Lib.hid (ho5.ints (by decide))
  have I3b := Lib.hid ((I3.out.below hb5 (Nat.le_refl _)).mono hb5.size)
  have B5 := Lib.hid (below_up B3.out hb5 B3.out.size)
  clear ho5 hb5 I3
  have SMy : Hid (Calls Try.prog 18 #[.slice A3 0 c3, .slice A5 0 c5] w5 fun e w' => e = .returned (.bool true) ∧ Below w5.heap.size w5 w') := Lib.hid ((SM.out A3 A5 c3 c5 [] [] w5 I3b.out I5.out).mono fun _ _ h => h)
  go_wp2_with fail
  refine SMy.out.mono ?_
  rintro e w6 ⟨rfl, hb6⟩
  have B6 := Lib.hid (below_up B5.out hb6 B5.out.size)
  clear hb6 I3b I5 SMy
  go_wp2
  go_loopw [5] (fun i wr => i = .int .i64 0 ∧ Below w.heap.size w wr) (fun i _ => 0)
  case atStart => exact ⟨rfl, B6.out⟩
  case round =>
    obtain ⟨rfl, hB⟩ := hrel
    have B7 := Lib.hid hB
    clear hB
    have HW8 := Lib.hid (HW.out.below B7.out)
    go_wp2_with fail
    refine (DR.out _ HW8.out).mono ?_
    rintro e w11 ⟨l, A11, c11, rfl, hl, hI, hb⟩
    have I11 := Lib.hid hI
    have B11 := Lib.hid (below_up B7.out hb B7.out.size)
    clear hI hb HW8
    have SCN := Lib.hid (fun A ca => impl_scanned_any A ca l)
    have PL1 := Lib.hid (fun A ca => impl_placed_any A ca (scR l))
    have PL2 := Lib.hid (fun A ca => impl_placed_any A ca l)
    have SC2 := Lib.hid (fun A ca => impl_scanned_any A ca (plR l))
    have hinv := Lib.hid (square_inv l)
    have hnone := Lib.hid (square_none l)
    have s1 := Lib.hid (scR_small l)
    have s2 := Lib.hid (plR_small l)
    have s3 := Lib.hid (plR_small (scR l))
    have s4 := Lib.hid (scR_small (plR l))
    obtain ⟨aa, ha⟩ : ∃ a, a = scR l := ⟨_, rfl⟩
    obtain ⟨p, hp⟩ : ∃ p, p = plR l := ⟨_, rfl⟩
    rw [← ha] at SCN PL1 hinv hnone s1 s3
    rw [← hp] at PL2 SC2 hinv s2 s4
    obtain ⟨x, hx⟩ : ∃ x, x = plR aa := ⟨_, rfl⟩
    obtain ⟨y, hy⟩ : ∃ y, y = scR p := ⟨_, rfl⟩
    rw [← hx] at PL1 hinv hnone s3
    rw [← hy] at SC2 hinv s4
    clear ha hp hx hy
    obtain ⟨N, hN⟩ : ∃ N, N = l.length := ⟨_, rfl⟩
    have SMx := Lib.hid (fun A B ca cb w => @sameints_any A B ca cb x l w)
    have SMy := Lib.hid (fun A B ca cb w => @sameints_any A B ca cb y l w)
    rw [← hN] at SCN PL2 hinv hnone hl SMx SMy ⊢
    clear hN
    go_wp2_with fail
    refine (SCN.out _ _ _ I11.out).mono ?_
    rintro e w12 ⟨A12, c12, rfl, ho12, hb12⟩
    have I12 := Lib.hid (ho12.ints s1.out)
    have I11b := Lib.hid ((I11.out.below hb12 (Nat.le_refl _)).mono hb12.size)
    have B12 := Lib.hid (below_up B11.out hb12 B11.out.size)
    clear ho12 hb12 I11
    go_wp2_with fail
    refine (PL1.out _ _ _ I12.out).mono ?_
    rintro e w13 ⟨A13, c13, rfl, ho13, hb13⟩
    have I13 := Lib.hid (ho13.ints s3.out)
    have I11c := Lib.hid ((I11b.out.below hb13 (Nat.le_refl _)).mono hb13.size)
    have B13 := Lib.hid (below_up B12.out hb13 B12.out.size)
    clear ho13 hb13 I12 I11b
    by_cases h16 : N = 16 ∨ N = 64
    · obtain ⟨e1, e2⟩ := hinv.out h16
      have d1 : decide (x = l) = true := decide_eq_true e1
      have d2 : decide (y = l) = true := decide_eq_true e2
      clear e1 e2
      have q1 : (((N : Int) != 16) && ((N : Int) != 64)) = false := by
        rcases h16 with rfl | rfl <;> rfl
      rcases h16 with rfl | rfl
      · have z16 : (((16 : Nat) : Int) != 16) = false := rfl
        clear q1
        go_wp2_with fail
        refine (SMx.out _ _ _ _ _ I13.out I11c.out).mono ?_
        rintro e w14 ⟨rfl, hb14⟩
        have I11d := Lib.hid ((I11c.out.below hb14 (Nat.le_refl _)).mono hb14.size)
        have B14 := Lib.hid (below_up B13.out hb14 B13.out.size)
        clear hb14 I13 I11c
        go_wp2_with fail
        refine (PL2.out _ _ _ I11d.out).mono ?_
        rintro e w15 ⟨A15, c15, rfl, ho15, hb15⟩
        have I15 := Lib.hid (ho15.ints s2.out)
        have I11e := Lib.hid ((I11d.out.below hb15 (Nat.le_refl _)).mono hb15.size)
        have B15 := Lib.hid (below_up B14.out hb15 B14.out.size)
        clear ho15 hb15 I11d
        go_wp2_with fail
        refine (SC2.out _ _ _ I15.out).mono ?_
        rintro e w16 ⟨A16, c16, rfl, ho16, hb16⟩
        have I16 := Lib.hid (ho16.ints s4.out)
        have I11f := Lib.hid ((I11e.out.below hb16 (Nat.le_refl _)).mono hb16.size)
        have B16 := Lib.hid (below_up B15.out hb16 B15.out.size)
        clear ho16 hb16 I11e I15
        go_wp2_with fail
        refine (SMy.out _ _ _ _ _ I16.out I11f.out).mono ?_
        rintro e w17 ⟨rfl, hb17⟩
        have B17 := Lib.hid (below_up B16.out hb17 B16.out.size)
        clear hb17 I16 I11f
        go_wp2
        go_ret
        exact ⟨rfl, B17.out⟩
      · have z16 : (((16 : Nat) : Int) != 16) = false := rfl
        clear q1
        go_wp2_with fail
        refine (SMx.out _ _ _ _ _ I13.out I11c.out).mono ?_
        rintro e w14 ⟨rfl, hb14⟩
        have I11d := Lib.hid ((I11c.out.below hb14 (Nat.le_refl _)).mono hb14.size)
        have B14 := Lib.hid (below_up B13.out hb14 B13.out.size)
        clear hb14 I13 I11c
        go_wp2_with fail
        refine (PL2.out _ _ _ I11d.out).mono ?_
        rintro e w15 ⟨A15, c15, rfl, ho15, hb15⟩
        have I15 := Lib.hid (ho15.ints s2.out)
        have I11e := Lib.hid ((I11d.out.below hb15 (Nat.le_refl _)).mono hb15.size)
        have B15 := Lib.hid (below_up B14.out hb15 B14.out.size)
        clear ho15 hb15 I11d
        go_wp2_with fail
        refine (SC2.out _ _ _ I15.out).mono ?_
        rintro e w16 ⟨A16, c16, rfl, ho16, hb16⟩
        have I16 := Lib.hid (ho16.ints s4.out)
        have I11f := Lib.hid ((I11e.out.below hb16 (Nat.le_refl _)).mono hb16.size)
        have B16 := Lib.hid (below_up B15.out hb16 B15.out.size)
        clear ho16 hb16 I11e I15
        go_wp2_with fail
        refine (SMy.out _ _ _ _ _ I16.out I11f.out).mono ?_
        rintro e w17 ⟨rfl, hb17⟩
        have B17 := Lib.hid (below_up B16.out hb17 B16.out.size)
        clear hb17 I16 I11f
        go_wp2
        go_ret
        exact ⟨rfl, B17.out⟩
    · have hx0 := hnone.out (fun e => h16 (.inl e)) (fun e => h16 (.inr e))
      have n16 : ((N : Int) != 16) = true := by rw [bne_iff_ne]; omega
      have n64 : ((N : Int) != 64) = true := by rw [bne_iff_ne]; omega
      subst hx0
      clear h16 hinv hnone
      go_wp2
      go_ret
      exact ⟨rfl, B13.out⟩

set_option maxRecDepth 100000 in
set_option maxHeartbeats 400000 in
theorem scans_big (a : Option Addr) (cap len : Nat) (h : 1048576 < len) (hlm : len ≤ 9223372036854775807) (w : World) :
    Calls Try.prog 7 #[.slice a len cap] w fun e w' => e = .returned (.bool true) ∧ Below w.heap.size w w' := by
  have BG := Lib.hid (big_any a len cap hlm)
  have hb : decide (1048576 < (len : Int)) = true := by simp; omega
  rw [hb] at BG
  go_enter Try.func7, Try.ntmps7
  go_wp2_with fail
  refine (BG.out _).mono ?_
  rintro e w1 ⟨rfl, hw⟩
  subst hw
  go_wp2
  go_ret
  exact ⟨rfl, Below.refl _ _⟩

/-- The law's own walk. -/
theorem fnScans_walk (a : Option Addr) (len cap : Nat) (zs : List Int) (w : World) (hr : IsRow .u8 w a len cap zs) :
    Calls Try.prog 7 #[.slice a len cap] w fun e w' => e = .returned (.bool true) ∧ Below w.heap.size w w' := by
  have hlm := hr.len_le
  unfold maxLen at hlm
  by_cases hbig : 1048576 < len
  · exact scans_big a cap len hbig hlm w
  · have hbigF : decide (1048576 < (len : Int)) = false := decide_eq_false (by omega)
    obtain ⟨ys, rfl, hW⟩ := code_of hr (by omega)
    have BG := Lib.hid (big_any a ys.length cap hlm)
    have DR := Lib.hid (fun w hW => drawscanned_ex a cap ys w hW)
    obtain ⟨n, hn, DO⟩ := drawscanorder_det a cap ys
    rcases hn with rfl | rfl | hn
    · exact scans_4 a cap ys ys.length hbigF w hW BG (Lib.hid (DO w hW)) DR
    · exact scans_8 a cap ys ys.length hbigF w hW BG (Lib.hid (DO w hW)) DR
    · exact scans_bad a cap ys ys.length hbigF w hW n (by rcases hn with rfl | rfl | rfl <;> decide) (by rcases hn with rfl | rfl | rfl <;> decide) BG (Lib.hid (DO w hW)) DR
end Go.Proofs.Ytgihpckibdnghaa
