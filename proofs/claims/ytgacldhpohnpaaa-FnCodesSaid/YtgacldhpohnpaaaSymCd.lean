/-
  The walk of the law on codes. No condition.
-/
import Derived.Test.YtgacldhpohnpaaaSymE
import Derived.Test.YtgacldhpohnpaaaSymR
import Derived.Deep.QuietTactic
import Derived.BigQuiet
namespace Go.Proofs.Ytgacldhpohnpaaa
open Go.RowKit
set_option linter.unusedVariables false

/-- A symbol's code in bits. -/
theorem symB_code {l : List Int} (h : okC l = true) (p q : Nat) (hp : p < 6) (hq : lenC l p = (q : Int) + 1) : ∃ k : Nat, (codeL l).getD p 0 = (k : Int) ∧ k < 2 ^ (q + 1) ∧ symB l (p : Int) = inL k (q + 1) (q + 1) ∧ q < 7 := by
  obtain ⟨hq7, k, k1, k2, _⟩ := valid_one h p q hp hq
  have hk : k < 2 ^ (q + 1) := by
    have e : 2 ^ (q + 1) * 2 ^ (6 - q) = 128 := by rw [← Nat.pow_add, show q + 1 + (6 - q) = 7 by omega]
    refine Nat.lt_of_not_le fun hle => ?_
    have h2 : 2 ^ (q + 1) * 2 ^ (6 - q) ≤ k * 2 ^ (6 - q) := Nat.mul_le_mul_right _ hle
    have h3 := Nat.two_pow_pos (6 - q)
    rw [Nat.add_mul] at k2
    omega
  refine ⟨k, k1, hk, ?_, hq7⟩
  unfold symB
  rw [if_pos ⟨h, by omega, by omega⟩, Int.toNat_natCast, k1, hq]
  have hok : inOk (k : Int) ((q : Int) + 1) = true := by
    unfold inOk
    have e : ((q : Int) + 1).toNat = q + 1 := by omega
    have h2 : (k : Int) < 2 ^ (q + 1) := by exact_mod_cast hk
    rw [e]
    simp only [Bool.and_eq_true, decide_eq_true_eq]
    exact ⟨⟨⟨by omega, by omega⟩, by omega⟩, h2⟩
  unfold inR
  rw [if_pos hok, Int.toNat_natCast, show ((q : Int) + 1).toNat = q + 1 by omega]
theorem symB_none {l : List Int} (h : okC l = true) (p : Nat) (hp : p < 6) (h0 : lenC l p = 0) : symB l (p : Int) = [] := by
  unfold symB
  rw [if_pos ⟨h, by omega, by omega⟩, Int.toNat_natCast, valid_none h p hp h0, h0]
  rfl
theorem inL_bits (n w k : Nat) : isBits (inL n w k) = true := by
  refine isBits_all _ fun t ht => ?_
  rw [inL_len] at ht
  rw [inL_at n w k t ht]
  have := Nat.mod_lt (n / 2 ^ (w - 1 - t)) (show 0 < 2 by decide)
  unfold isBit
  rcases (show n / 2 ^ (w - 1 - t) % 2 = 0 ∨ n / 2 ^ (w - 1 - t) % 2 = 1 by omega) with e | e <;> rw [e] <;> rfl
/-- A symbol is read from its code. -/
theorem symB_back {l : List Int} (h : okC l = true) (p q : Nat) (hp : p < 6) (hq : lenC l p = (q : Int) + 1) : (symB l (p : Int)).length = q + 1 ∧ syR (stopS (symB l (p : Int))) 0 l = .tuple #[.agg #[.string (stopS (symB l (p : Int))), .int .i64 ((q : Int) + 1)], .int .i64 p, .int .i64 0] := by
  obtain ⟨k, k1, k2, k3, hq7⟩ := symB_code h p q hp hq
  have hlen : (symB l (p : Int)).length = q + 1 := by rw [k3, inL_len]
  refine ⟨hlen, ?_⟩
  have hb : isBits (symB l (p : Int)) = true := by rw [k3]; exact inL_bits _ _ _
  obtain ⟨r1, r2⟩ := stopS_left (symB l (p : Int)) hb 0 (Nat.zero_le _)
  obtain ⟨n1, n2, n3⟩ := stopN_gt (symB l (p : Int)).length
  rw [hlen] at r2 n1
  have hrd : rdN (stopS (symB l (p : Int))) 0 (q + 1) = k := by
    have h3 := stopS_put [] k (q + 1) k2 (by rw [List.nil_append]; exact inL_bits _ _ _)
    rw [List.nil_append, List.length_nil] at h3
    rw [k3]
    exact h3
  have hok : rbOk (stopS (symB l (p : Int))) 0 ((q : Int) + 1) = true := by
    have r1' : rdOk (stopS (symB l (p : Int))) 0 = true := r1
    have r2' : leftV (stopS (symB l (p : Int))) 0 = (stopN (q + 1) : Int) - 0 := r2
    simp only [rbOk, r1', r2', Bool.true_and, Bool.and_eq_true, decide_eq_true_eq]
    rw [hlen] at *
    omega
  have hm : matchC (stopS (symB l (p : Int))) 0 l p := by
    unfold matchC
    rw [hq]
    refine ⟨hok, ?_⟩
    unfold rbNum
    rw [if_pos hok, k1, show ((q : Int) + 1).toNat = q + 1 by omega]
    exact congrArg _ hrd
  rw [syR_hit h p hp hm, hq]
  unfold rbPlace
  rw [if_pos hok, Int.zero_add]

set_option maxRecDepth 100000 in
set_option maxHeartbeats 400000 in
theorem codes_big (a : Option Addr) (cap len : Nat) (hbig : 1048576 < len) (hm : len ≤ 9223372036854775807) (w : World) :
    Calls Try.prog 4 #[.slice a len cap] w fun e w' => e = .returned (.bool true) ∧ Below w.heap.size w w' := by
  have h := big_any a len cap hm
  rw [decide_eq_true (by omega)] at h
  have HB := Lib.hid h
  clear h
  go_enter Try.func4, Try.ntmps4
  go_wp2_with fail
  refine (HB.out _).mono ?_
  rintro e w' ⟨rfl, rfl⟩
  go_wp2
  go_ret
  exact ⟨rfl, Below.refl _ _⟩

set_option maxRecDepth 100000 in
set_option maxHeartbeats 4000000 in
theorem codes_in (A : Option Addr) (cap : Nat) (ys : List Int) (w : World) (hw : Code w A ys) (N : Nat) (hbig : decide (1048576 < (N : Int)) = false)
    (BG : Hid (∀ w, Calls Try.prog 13 #[.slice A N cap] w fun e w' => e = .returned (.bool (decide (1048576 < (N : Int)))) ∧ w = w'))
    (DF : Hid (∀ w, Code w A ys → Calls Try.prog 24 #[.slice A N cap] w (CdOut w)))
    (x : Int) (hx0 : 0 ≤ x) (hx1 : x < 256) (AT : Hid (∀ w, Code w A ys → Calls Try.prog 29 #[.slice A N cap, .int .i64 0] w fun e w' => e = .returned (.int .i64 x) ∧ w = w')) :
    Calls Try.prog 4 #[.slice A N cap] w fun e w' => e = .returned (.bool true) ∧ Below w.heap.size w w' := by
  have W0 := Lib.hid hw
  clear hw
  go_enter Try.func4, Try.ntmps4
  go_wp2_with fail
  refine (BG.out _).mono ?_
  rintro e w' ⟨rfl, hw⟩
  subst hw
  go_wp2_with fail
  refine (DF.out _ W0.out).mono ?_
  rintro e w1 ⟨l, A1, c1, rfl, hl6, hI1, hb1⟩
  have I1 := Lib.hid hI1; have B1 := Lib.hid hb1; have HL6 := Lib.hid hl6
  clear hI1 hb1
  have IC := Lib.hid (fun w hA => impl_codesof_any A1 c1 l w hA)
  have IT := Lib.hid (fun w hA => impl_symtable_any A1 c1 l w hA)
  have SC := Lib.hid (fun w hA => spec_codeok_any A1 c1 l (by omega) w hA)
  have IO := Lib.hid (fun w hA => impl_codeok_any A1 c1 l w hA)
  cases hok : okC l with
  | false =>
    have e1 : codesR l = [] := by unfold codesR; rw [hok]; rfl
    have e2 : symTR l = [] := by unfold symTR; rw [hok]; rfl
    rw [e1] at IC
    rw [e2] at IT
    rw [hok] at SC IO
    clear e1 e2 hok
    go_wp2_with fail
    refine (IC.out _ I1.out).mono ?_
    rintro e w2 ⟨A2, c2, rfl, ho2, hb2⟩
    have I2 := Lib.hid ((I1.out.below hb2 (Nat.le_refl _)).mono hb2.size)
    have B2 := Lib.hid (below_up B1.out hb2 B1.out.size)
    clear ho2 hb2
    go_wp2_with fail
    refine (IT.out _ I2.out).mono ?_
    rintro e w3 ⟨A3, c3, rfl, ho3, hb3⟩
    have I3 := Lib.hid ((I2.out.below hb3 (Nat.le_refl _)).mono hb3.size)
    have B3 := Lib.hid (below_up B2.out hb3 B2.out.size)
    clear ho3 hb3
    go_wp2_with fail
    refine (SC.out _ I3.out).mono ?_
    rintro e w' ⟨rfl, hw⟩
    subst hw
    go_wp2_with fail
    refine (IO.out _ I3.out).mono ?_
    rintro e w' ⟨rfl, hw⟩
    subst hw
    go_wp2
    go_ret
    exact ⟨rfl, B3.out⟩
  | true =>
    have e1 : codesR l = codeL l := by unfold codesR; rw [hok]; rfl
    have e2 : symTR l = symT l := by unfold symTR; rw [hok]; rfl
    have hl := (okC_parts hok).1
    have hcl := codeL_len hok
    have htl := symT_len hok
    rw [e1, hcl] at IC
    rw [e2, htl] at IT
    rw [hok] at SC IO
    have HCL := Lib.hid hcl; have HTL := Lib.hid htl; have HOK := Lib.hid hok
    have HHAS := Lib.hid (valid_has hok)
    have HONE := Lib.hid (valid_one hok)
    have HR := Lib.hid (lenC_range hok)
    rw [hl] at IC IT SC IO
    obtain ⟨b, off, hA1, hb, hc⟩ := I1.out.at 0 (by omega)
    subst hA1
    rw [hl] at hc ⊢
    have HC := Lib.hid hc
    have HLL := Lib.hid hl
    clear e1 e2 hcl htl hc hok hl hl6
    go_wp2_with fail
    refine (IC.out _ I1.out).mono ?_
    rintro e w2 ⟨A2, c2, rfl, ho2, hb2⟩
    have hR2 := ho2.ints (by rw [HCL.out]; omega)
    obtain ⟨b2, o2, rfl, hb2', hc2⟩ := hR2.at 0 (by rw [HCL.out]; omega)
    rw [HCL.out] at hc2
    have HC2 := Lib.hid hc2
    have I2 := Lib.hid ((I1.out.below hb2 (Nat.le_refl _)).mono hb2.size)
    have B2 := Lib.hid (below_up B1.out hb2 B1.out.size)
    have E2 := Lib.hid hb2
    clear ho2 hb2 hR2 hc2
    go_wp2_with fail
    refine (IT.out _ I2.out).mono ?_
    rintro e w3 ⟨A3, c3, rfl, ho3, hb3⟩
    have hR3 := ho3.ents (by rw [HTL.out]; omega)
    obtain ⟨b3, o3, rfl, hb3', hc3⟩ := hR3.at 0 (by rw [HTL.out]; omega)
    rw [HTL.out] at hc3
    have HC3 := Lib.hid hc3
    have I3 := Lib.hid ((I2.out.below hb3 (Nat.le_refl _)).mono hb3.size)
    have B3 := Lib.hid (below_up B2.out hb3 B2.out.size)
    have E3 := Lib.hid hb3
    clear ho3 hb3 hR3 hc3
    go_wp2_with fail
    refine (SC.out _ I3.out).mono ?_
    rintro e w' ⟨rfl, hw⟩
    subst hw
    go_wp2
    have cl3 : Hid (∀ p, p < 6 → w3.cell? ⟨b, off + p, none⟩ = some (.int .i64 (lenC l p))) := Lib.hid fun p hp => by
      rw [E3.out.cell (p := ⟨b, off + p, none⟩) (Nat.lt_of_lt_of_le hb E2.out.size), E2.out.cell (p := ⟨b, off + p, none⟩) hb]; exact HC.out p hp
    have cc3 : Hid (∀ p, p < 6 → w3.cell? ⟨b2, o2 + p, none⟩ = some (.int .i64 ((codeL l).getD p 0))) := Lib.hid fun p hp => by
      rw [E3.out.cell (p := ⟨b2, o2 + p, none⟩) hb2']; exact HC2.out p hp
    have lb3 : b < w3.heap.size := Nat.lt_of_lt_of_le (Nat.lt_of_lt_of_le hb E2.out.size) E3.out.size
    have lb23 : b2 < w3.heap.size := Nat.lt_of_lt_of_le hb2' E3.out.size
    go_loopw [6, 7, 8] (fun i x1 x2 wr => ∃ j : Nat, j ≤ 128 ∧ i = .int .i64 j ∧ Below w3.heap.size w3 wr)
      (fun i _ _ _ => 128 - (intOf i).toNat)
    case atStart => exact ⟨0, Nat.zero_le _, rfl, Below.refl _ _⟩
    case round =>
      obtain ⟨j, hj, rfl, hbel⟩ := hrel
      by_cases hlt : j < 128
      · obtain ⟨P, Q, hP, hQ7, hQ, hE, hCd⟩ := HHAS.out j hlt
        have HP := Lib.hid hE; have HCd := Lib.hid hCd; have HQ := Lib.hid hQ
        have B4 := Lib.hid hbel
        have hq128 : decide ((j : Int) < 128) = true := by simp; omega
        clear hE hCd hQ hbel
        go_wp2
        go_loopw [7, 8] (fun n m wr => ∃ k : Nat, k ≤ 6 ∧ m = .int .i64 k ∧ n = .int .i64 (if P < k then 1 else 0) ∧ Below w3.heap.size w3 wr)
          (fun _ m _ => 6 - (intOf m).toNat)
        case atStart => exact ⟨0, Nat.zero_le _, rfl, rfl, B4.out⟩
        case round =>
          obtain ⟨k, hk, rfl, rfl, hbel⟩ := hrel
          have B5 := Lib.hid hbel
          by_cases hlk : k < 6
          · have cl := cl3.out k hlk
            rw [← hbel.cell (p := ⟨b, off + k, none⟩) lb3] at cl
            have cc := cc3.out k hlk
            rw [← hbel.cell (p := ⟨b2, o2 + k, none⟩) lb23] at cc
            obtain ⟨ct0, ct1⟩ := HC3.out j hlt
            rw [← hbel.cell (p := ⟨b3, o3 + j * 2, none⟩) hb3'] at ct0
            rw [← hbel.cell (p := ⟨b3, o3 + j * 2 + 1, none⟩) hb3'] at ct1
            rw [HP.out] at ct0 ct1
            obtain ⟨y, hy⟩ : ∃ y, y = (codeL l).getD k 0 := ⟨_, rfl⟩
            rw [← hy] at cc
            have hin := HR.out k
            by_cases h0 : lenC l k = 0
            · rw [h0] at cl
              have hPk : P ≠ k := by rintro rfl; rw [HQ.out] at h0; omega
              have e : (if P < k + 1 then (1 : Int) else 0) = if P < k then 1 else 0 := by
                by_cases h : P < k
                · rw [if_pos h, if_pos (by omega)]
                · rw [if_neg h, if_neg (by omega)]
              obtain ⟨n, hn⟩ : ∃ n : Int, n = if P < k then 1 else 0 := ⟨_, rfl⟩
              rw [← hn] at e ⊢
              have HE := Lib.hid e
              clear hbel hin h0 hPk e hn hy
              go_wp2
              go_region
              go_wp2
              go_roundw
              case rel => exact ⟨k + 1, by omega, by go_num, by rw [HE.out], B5.out.drew⟩
              case measure => simp [intOf]; omega
            · obtain ⟨q, hq⟩ : ∃ q : Nat, lenC l k = (q : Int) + 1 := by
                simp only [inC, Bool.and_eq_true, decide_eq_true_eq] at hin
                exact ⟨(lenC l k - 1).toNat, by omega⟩
              obtain ⟨hq7, K, hK, hK2, hK3⟩ := HONE.out k q hlk hq
              have hyK : y = (K : Int) := by rw [hy]; exact hK
              subst hyK
              have e : (if P < k + 1 then (1 : Int) else 0) = (if P < k then 1 else 0) + (if P = k then 1 else 0) := by
                by_cases h : P < k
                · rw [if_pos h, if_pos (by omega), if_neg (by omega)]; rfl
                · by_cases h2 : P = k
                  · rw [if_neg h, if_pos (by omega), if_pos h2]; rfl
                  · rw [if_neg h, if_neg (by omega), if_neg h2]; rfl
              have hn01 : (if P < k then (1 : Int) else 0) = 0 ∨ (if P < k then (1 : Int) else 0) = 1 := by split <;> simp
              rw [hq] at cl
              by_cases hPk : P = k
              · subst hPk
                have hQq : Q = q := by have := HQ.out; omega
                subst hQq
                have hjK : j / 2 ^ (6 - Q) = K := by
                  have h1 := HCd.out
                  rw [hK] at h1
                  omega
                rw [if_pos rfl] at e
                obtain ⟨n, hn⟩ : ∃ n : Int, n = if P < P then 1 else 0 := ⟨_, rfl⟩
                rw [← hn] at e hn01 ⊢
                have HE := Lib.hid e
                clear hbel hin h0 e hn hy hK hK2 hK3
                have hK128 : K < 128 := by rw [← hjK]; exact Nat.lt_of_le_of_lt (Nat.div_le_self _ _) hlt
                rcases (show Q = 0 ∨ Q = 1 ∨ Q = 2 ∨ Q = 3 ∨ Q = 4 ∨ Q = 5 ∨ Q = 6 by omega) with rfl | rfl | rfl | rfl | rfl | rfl | rfl
                all_goals simp only [Nat.reduceSub, Nat.reducePow, Nat.div_one] at hjK
                rotate_right 1
                subst hjK
                all_goals
                  go_wp2
                  go_region
                  go_wp2
                  go_region
                  go_wp2
                  go_roundw
                  case rel => exact ⟨P + 1, by omega, by go_num, by rw [HE.out], B5.out.drew.drew⟩
                  case measure => simp [intOf]; omega
              · have hjK : j / 2 ^ (6 - q) ≠ K := by
                  intro h1
                  have h2 := hK3 j h1
                  rw [HP.out] at h2
                  have := (Prod.mk.inj h2).2
                  omega
                rw [if_neg hPk, Int.add_zero] at e
                obtain ⟨n, hn⟩ : ∃ n : Int, n = if P < k then 1 else 0 := ⟨_, rfl⟩
                rw [← hn] at e ⊢
                have HE := Lib.hid e
                clear hbel hin h0 e hn hy hK hK2 hK3 hPk hn01
                rcases (show q = 0 ∨ q = 1 ∨ q = 2 ∨ q = 3 ∨ q = 4 ∨ q = 5 ∨ q = 6 by omega) with rfl | rfl | rfl | rfl | rfl | rfl | rfl
                all_goals
                  simp only [Nat.reduceSub, Nat.reducePow, Nat.div_one] at hjK
                  go_wp2
                  go_region
                  go_wp2
                  go_roundw
                  case rel => exact ⟨k + 1, by omega, by go_num, by rw [HE.out], B5.out.drew⟩
                  case measure => simp [intOf]; omega
          · obtain rfl : k = 6 := by omega
            rw [if_pos hP]
            clear hbel
            go_wp2
            go_roundw
            case rel => exact ⟨j + 1, by omega, by go_num, B5.out⟩
            case measure => simp [intOf]; omega
      · obtain rfl : j = 128 := by omega
        have W4 := Lib.hid (W0.out.below (below_up B3.out hbel B3.out.size))
        have B4 := Lib.hid (below_up B3.out hbel B3.out.size)
        have I4 := Lib.hid ((I3.out.below hbel (Nat.le_refl _)).mono hbel.size)
        have cl4 : Hid (∀ p, p < 6 → wr.cell? ⟨b, off + p, none⟩ = some (.int .i64 (lenC l p))) := Lib.hid fun p hp => by
          rw [hbel.cell (p := ⟨b, off + p, none⟩) lb3]; exact cl3.out p hp
        have lb4 : b < wr.heap.size := Nat.lt_of_lt_of_le lb3 hbel.size
        obtain ⟨m, hm6, hx6⟩ : ∃ m : Nat, m < 6 ∧ x.tmod 6 = (m : Int) := ⟨(x % 6).toNat, by omega, by rw [Int.tmod_eq_emod_of_nonneg hx0]; omega⟩
        have IB := Lib.hid (fun w hA => impl_symbits_any (some ⟨b, off, none⟩) c1 l (m : Int) w hA)
        have IR := Lib.hid (fun s hs w hA => impl_readsym_any s 0 hs (some ⟨b, off, none⟩) c1 l w hA)
        rw [HLL.out] at IB IR
        clear hbel
        go_wp2_with fail
        refine (AT.out _ W4.out).mono ?_
        rintro e w' ⟨rfl, hw⟩
        subst hw
        go_wp2_with fail
        refine (IB.out _ I4.out).mono ?_
        rintro e w5 ⟨A5, c5, rfl, ho5, hb5⟩
        have SL : (symB l (m : Int)).length ≤ 7 := by
          by_cases h0 : lenC l m = 0
          · rw [symB_none HOK.out m hm6 h0]; simp
          · obtain ⟨q, hq⟩ : ∃ q : Nat, lenC l m = (q : Int) + 1 := by
              have hin := HR.out m
              simp only [inC, Bool.and_eq_true, decide_eq_true_eq] at hin
              exact ⟨(lenC l m - 1).toNat, by omega⟩
            have := (valid_one HOK.out m q hm6 hq).1
            have := (symB_back HOK.out m q hm6 hq).1
            omega
        have P5 := Lib.hid ho5.placed
        have J5 := Lib.hid (ho5.ints (by omega))
        have I5 := Lib.hid ((I4.out.below hb5 (Nat.le_refl _)).mono hb5.size)
        have B5 := Lib.hid (below_up B4.out hb5 B4.out.size)
        have cl5 : w5.cell? ⟨b, off + m, none⟩ = some (.int .i64 (lenC l m)) := by rw [hb5.cell (p := ⟨b, off + m, none⟩) lb4]; exact cl4.out m hm6
        have lb5 : b < w5.heap.size := Nat.lt_of_lt_of_le lb4 hb5.size
        have CL5 := Lib.hid cl5
        clear ho5 hb5 cl5
        have IS := Lib.hid (impl_stopped_any A5 c5 (symB l (m : Int)) (by omega) _ J5.out P5.out)
        have hss := stopS_size (symB l (m : Int))
        obtain ⟨s, hs⟩ : ∃ s, s = stopS (symB l (m : Int)) := ⟨_, rfl⟩
        obtain ⟨n, hn⟩ : ∃ n, n = (symB l (m : Int)).length := ⟨_, rfl⟩
        rw [← hs, ← hn] at IS
        rw [← hs] at hss
        rw [← hn] at hss SL ⊢
        have HS := Lib.hid hs; have HNN := Lib.hid hn
        clear hs hn
        go_wp2_with fail
        refine IS.out.mono ?_
        rintro e w6 ⟨rfl, hb6⟩
        have IR6 := Lib.hid (IR.out s (by omega) w6 ((I5.out.below hb6 (Nat.le_refl _)).mono hb6.size))
        have I6 := Lib.hid ((I5.out.below hb6 (Nat.le_refl _)).mono hb6.size)
        have B6 := Lib.hid (below_up B5.out hb6 B5.out.size)
        have CL6 : Hid (w6.cell? ⟨b, off + m, none⟩ = some (.int .i64 (lenC l m))) := Lib.hid (by rw [hb6.cell (p := ⟨b, off + m, none⟩) lb5]; exact CL5.out)
        have lb6 : b < w6.heap.size := Nat.lt_of_lt_of_le lb5 hb6.size
        clear hb6
        by_cases h0 : lenC l m = 0
        · have e1 : n = 0 := by rw [HNN.out, symB_none HOK.out m hm6 h0]; rfl
          subst e1
          rw [h0] at CL6
          go_wp2_with fail
          refine IR6.out.mono ?_
          rintro e w7 ⟨rfl, hb7⟩
          have CL7 : Hid (w7.cell? ⟨b, off + m, none⟩ = some (.int .i64 0)) := Lib.hid (by rw [hb7.cell (p := ⟨b, off + m, none⟩) lb6]; exact CL6.out)
          have lb7 : b < w7.heap.size := Nat.lt_of_lt_of_le lb6 hb7.size
          have I7 := Lib.hid ((I6.out.below hb7 (Nat.le_refl _)).mono hb7.size)
          have B7 := Lib.hid (below_up B6.out hb7 B6.out.size)
          clear hb7
          obtain ⟨vP, hvP⟩ : ∃ v, v = syP s 0 l := ⟨_, rfl⟩
          obtain ⟨vM, hvM⟩ : ∃ v, v = syM s 0 l := ⟨_, rfl⟩
          obtain ⟨vF, hvF⟩ : ∃ v, v = syF s 0 l := ⟨_, rfl⟩
          unfold syR
          rw [← hvP, ← hvM, ← hvF]
          have B8 := Lib.hid (below_new w7 (.cells #[.string s, .int .i64 vP] 35))
          have I8 := (I7.out.below B8.out (Nat.le_refl _)).mono B8.out.size
          have I9 : Hid (∀ k, Ints ((w7.alloc (.cells #[.string s, .int .i64 vP] 35)).drewN k) ((w7.alloc (.cells #[.string s, .int .i64 vP] 35)).drewN k).heap.size (some ⟨b, off, none⟩) l) := Lib.hid (fun k => I8.kept (fun _ _ => rfl))
          have B9 := below_up B7.out B8.out B7.out.size
          have BA : Hid (∀ k, Below w.heap.size w ((w7.alloc (.cells #[.string s, .int .i64 vP] 35)).drewN k)) := Lib.hid (fun k => ⟨B9.os, B9.tape, B9.output, B9.size, B9.block⟩)
          have cl7 := CL7.out
          clear hvP hvM hvF I8 B9
          go_wp2
          go_quiet ((go_at_call 28; exact Calls.quiet_of_same ((IO.out _ (I9.out _)).mono fun _ _ h => ⟨h.1, h.2.symm⟩)))
          go_wp2
          go_ret
          exact ⟨rfl, BA.out _⟩
        · obtain ⟨q, hq⟩ : ∃ q : Nat, lenC l m = (q : Int) + 1 := by
            have hin := HR.out m
            simp only [inC, Bool.and_eq_true, decide_eq_true_eq] at hin
            exact ⟨(lenC l m - 1).toNat, by omega⟩
          obtain ⟨k1, k2⟩ := symB_back HOK.out m q hm6 hq
          rw [← HNN.out] at k1
          rw [← HS.out] at k2
          subst k1
          rw [k2] at IR6
          rw [hq] at CL6
          clear k2 h0 hq
          go_wp2_with fail
          refine IR6.out.mono ?_
          rintro e w7 ⟨rfl, hb7⟩
          have CL7 : Hid (w7.cell? ⟨b, off + m, none⟩ = some (.int .i64 ((q : Int) + 1))) := Lib.hid (by rw [hb7.cell (p := ⟨b, off + m, none⟩) lb6]; exact CL6.out)
          have lb7 : b < w7.heap.size := Nat.lt_of_lt_of_le lb6 hb7.size
          have I7 := Lib.hid ((I6.out.below hb7 (Nat.le_refl _)).mono hb7.size)
          have B7 := Lib.hid (below_up B6.out hb7 B6.out.size)
          clear hb7
          have B8 := Lib.hid (below_new w7 (.cells #[.string s, .int .i64 ((q : Int) + 1)] 35))
          have I8 := (I7.out.below B8.out (Nat.le_refl _)).mono B8.out.size
          have I9 : Hid (∀ k, Ints ((w7.alloc (.cells #[.string s, .int .i64 ((q : Int) + 1)] 35)).drewN k) ((w7.alloc (.cells #[.string s, .int .i64 ((q : Int) + 1)] 35)).drewN k).heap.size (some ⟨b, off, none⟩) l) := Lib.hid (fun k => I8.kept (fun _ _ => rfl))
          have B9 := below_up B7.out B8.out B7.out.size
          have BA : Hid (∀ k, Below w.heap.size w ((w7.alloc (.cells #[.string s, .int .i64 ((q : Int) + 1)] 35)).drewN k)) := Lib.hid (fun k => ⟨B9.os, B9.tape, B9.output, B9.size, B9.block⟩)
          have cl7 := CL7.out
          have hd1 : decide ((((q + 1 : Nat) : Int)) = 0) = false := by simp; omega
          have hd2 : decide (((q : Int) + 1) = 0) = false := by simp; omega
          have hmI0 : (0 : Int) ≤ (m : Int) := by omega
          have hmI : (m : Int) < 6 := by omega
          have hmT : (m : Int).toNat = m := by omega
          clear I8 B9
          go_wp2
          go_quiet ((go_at_call 28; exact Calls.quiet_of_same ((IO.out _ (I9.out _)).mono fun _ _ h => ⟨h.1, h.2.symm⟩)))
          go_wp2
          go_ret
          exact ⟨rfl, BA.out _⟩

/-- The law's own walk. -/
theorem fnCodes_walk (a : Option Addr) (len cap : Nat) (zs : List Int) (w : World) (hr : IsRow .u8 w a len cap zs) :
    Calls Try.prog 4 #[.slice a len cap] w fun e w' => e = .returned (.bool true) ∧ Below w.heap.size w w' := by
  have hlm := hr.len_le
  unfold maxLen at hlm
  by_cases hbig : 1048576 < len
  · exact codes_big a cap len hbig hlm w
  · have hbigF : decide (1048576 < (len : Int)) = false := decide_eq_false (by omega)
    obtain ⟨ys, rfl, hW⟩ := code_of hr (by omega)
    obtain ⟨x, hx0, hx1, AT⟩ := at_det a cap ys (by omega) 0 (by omega)
    exact codes_in a cap ys w hW ys.length hbigF (Lib.hid (big_any a ys.length cap hlm)) (Lib.hid fun w hW => drawcodes_ex a cap ys w hW) x hx0 hx1 (Lib.hid AT)
end Go.Proofs.Ytgacldhpohnpaaa
