/-
  The walk of the law on writing bits: its cases joined. No condition.
-/
import Derived.Test.YtkefplaffppklaaPuts
import Derived.Test.YtkefplaffppklaaPutsM
namespace Go.Proofs.Ytkefplaffppklaa
open Go.RowKit
set_option linter.unusedVariables false

theorem ne_text (S : ByteArray) (h : 0 < S.size) : S.toList.isEmpty = false ∧ (S.toList == ({ data := #[] } : ByteArray).toList) = false ∧ (S.toList == []) = false ∧ ¬ S.toList = [] := by
  obtain ⟨l, hl⟩ : ∃ l, l = S.data.toList := ⟨_, rfl⟩
  have hS : S = bs l := by rw [hl, bs_eta]
  have hne : l ≠ [] := fun e => by rw [hS, e, bs_size] at h; exact absurd h (by decide)
  have e0 : ({ data := #[] } : ByteArray).toList = [] := by simp
  have e : S.toList = l := by rw [hS, bs_toList]
  rw [e0, e]
  refine ⟨?_, ?_, ?_, hne⟩
  · cases l with
    | nil => exact absurd rfl hne
    | cons x y => rfl
  · rw [beq_eq_false_iff_ne]; exact hne
  · rw [beq_eq_false_iff_ne]; exact hne
theorem em_text : (bs []).toList.isEmpty = true ∧ ((bs []).toList == ({ data := #[] } : ByteArray).toList) = true ∧ ((bs []).toList == []) = true ∧ (bs []).toList = [] := by
  have e0 : ({ data := #[] } : ByteArray).toList = [] := by simp
  rw [e0, bs_toList]
  exact ⟨rfl, rfl, rfl, rfl⟩

theorem fnPuts_walk (a : Option Addr) (len cap : Nat) (zs : List Int) (w : World) (h : IsRow .u8 w a len cap zs) :
    Calls Try.prog 3 #[.slice a len cap] w fun e w' => e = .returned (.bool true) ∧ Below w.heap.size w w' := by
  have hlm := h.len_le
  unfold maxLen at hlm
  by_cases hbig : 1048576 < len
  · exact puts_big a cap len hbig (by omega) w
  · obtain ⟨ys, rfl, hW⟩ := code_of h (by omega)
    have hbigF : decide (1048576 < (ys.length : Int)) = false := by simp; omega
    have BG := Lib.hid (big_any a ys.length cap (by omega))
    obtain ⟨l, n, k, hl, hn, hk, DP⟩ := drawPutBits_det a cap ys
    obtain ⟨sr, ar, hsr, DS⟩ := drawStopOk_det a cap ys
    have DP := Lib.hid DP
    have DS := Lib.hid DS
    have IP := Lib.hid (fun A ca w hA hP => impl_putbits_any A ca l n k (by omega) hn w hA hP)
    have SP := Lib.hid (fun A ca w hA hP => spec_putbits_any A ca l n k (by omega) hn w hA hP)
    have hlx : (putR l n k).length ≤ 44 := by
      cases ho : putOk l n k with
      | true =>
        obtain ⟨c, b, rfl, rfl, hb, _, _⟩ := putOk_nat l n k ho
        have e : putR l c b = l ++ inL c b b := by rw [putR, ho]; rfl
        rw [e, List.length_append, inL_len]
        omega
      | false =>
        have e : putR l n k = l := by rw [putR, ho]; rfl
        rw [e]
        omega
    have SA : Hid (∀ A B ca cb w, Ints w w.heap.size A (putR l n k) → Ints w w.heap.size B (putR l n k) → Calls Try.prog 11 #[.slice A (putR l n k).length ca, .slice B (putR l n k).length cb] w fun e w' => e = .returned (.bool true) ∧ Below w.heap.size w w') :=
      Lib.hid fun A B ca cb w hA hB => by
        have h := sameints_any A B ca cb (putR l n k) (putR l n k) w hA hB
        rw [decide_eq_true rfl] at h
        exact h
    have IS := Lib.hid (fun A ca w hA hP => impl_stopped_any A ca (putR l n k) (by omega) w hA hP)
    have SS := Lib.hid (fun A ca w hA hP => spec_stopped_any A ca (putR l n k) (by omega) w hA hP)
    cases hb : isBits (putR l n k) with
    | false =>
      have hs := stopS_no _ hb
      rw [hs] at IS SS
      obtain ⟨t1, t2, t3, t4⟩ := em_text
      exact puts_e (putOk l n k) a cap ys w hW ys.length rfl l (putR l n k) n k _ hbigF (by omega) (by omega) t1 t2 t3 t4 BG DP IP SP SA IS SS
    | true =>
      have hs8 := stopS_len _ hb
      obtain ⟨g1, g2, g3⟩ := stopN_gt (putR l n k).length
      have hss : (stopS (putR l n k)).size ≤ 1048576 := by omega
      obtain ⟨t1, t2, t3, t4⟩ := ne_text (stopS (putR l n k)) (by omega)
      have O1 := impl_stopok_any (stopS (putR l n k)) ((putR l n k).length : Int) hss
      rw [stopS_end _ hb] at O1
      have O1 := Lib.hid O1
      have O2 := Lib.hid (impl_stopok_any sr ar (by omega))
      have O3 := Lib.hid (spec_stopok_any sr ar (by omega))
      have O4 := fun K : Nat => impl_stopok_any (stopS (putR l n k)) (K : Int) hss
      have hlast : ∀ K : Nat, (putR l n k).length = K + 1 → soV (stopS (putR l n k)) (K : Int) = 0 → (putR l n k).getD K 0 = 1 := fun K hK hu => by
        by_cases h1 : (putR l n k).getD K 0 = 1
        · exact h1
        · exact absurd hu (stopS_before _ hb K (by omega) h1)
      cases ho : putOk l n k with
      | false =>
        rw [ho] at IP SP
        by_cases h0 : (putR l n k).length = 0
        · exact puts_f0 a cap ys w hW ys.length rfl l (putR l n k) n k _ hbigF (by omega) (by omega) t1 t2 t3 t4 BG DP IP SP SA IS sr ar _ DS O1 O2 O3 (by rw [h0]; rfl)
        · obtain ⟨K, hK⟩ : ∃ K, (putR l n k).length = K + 1 := ⟨(putR l n k).length - 1, by omega⟩
          by_cases hu : soV (stopS (putR l n k)) (K : Int) = 0
          · exact puts_f2 a cap ys w hW ys.length rfl l (putR l n k) n k _ hbigF (by omega) (by omega) t1 t2 t3 t4 BG DP IP SP SA IS sr ar _ DS O1 O2 O3 K (Lib.hid hK) _ (by rw [beq_eq_false_iff_ne]; omega) (Lib.hid (O4 K)) (by rw [bne_eq_false_iff_eq]; exact hu) (hlast K hK hu)
          · exact puts_f1 a cap ys w hW ys.length rfl l (putR l n k) n k _ hbigF (by omega) (by omega) t1 t2 t3 t4 BG DP IP SP SA IS sr ar _ DS O1 O2 O3 K (Lib.hid hK) _ (by rw [beq_eq_false_iff_ne]; omega) (Lib.hid (O4 K)) (by rw [bne_iff_ne]; exact hu)
      | true =>
        obtain ⟨P, RB⟩ : ∃ P : Int, Hid (∀ w, Calls Try.prog 14 #[.agg #[.string (stopS (putR l n k)), .int .i64 l.length], .int .i64 k] w fun e w' => e = .returned (.tuple #[.agg #[.string (stopS (putR l n k)), .int .i64 P], .int .i64 n, .bool true]) ∧ Below w.heap.size w w') := by
          obtain ⟨c, b, rfl, rfl, hb1, hc, hlb⟩ := putOk_nat l n k ho
          have e : putR l c b = l ++ inL c b b := by rw [putR, ho]; rfl
          have hlen : (l ++ inL c b b).length = l.length + b := by rw [List.length_append, inL_len]
          rw [e] at hb hs8 hss g1 ⊢
          have h1 := fun w => impl_readbits_in (stopS (l ++ inL c b b)) l.length b hss hb1 (by omega) w
          rw [stopS_put l c b hc hb] at h1
          exact ⟨_, Lib.hid h1⟩
        rw [ho] at IP SP
        by_cases h0 : (putR l n k).length = 0
        · exact puts_t0 a cap ys w hW ys.length rfl l (putR l n k) n k _ hbigF (by omega) (by omega) t1 t2 t3 t4 BG DP IP SP SA IS P RB sr ar _ DS O1 O2 O3 (by rw [h0]; rfl)
        · obtain ⟨K, hK⟩ : ∃ K, (putR l n k).length = K + 1 := ⟨(putR l n k).length - 1, by omega⟩
          by_cases hu : soV (stopS (putR l n k)) (K : Int) = 0
          · exact puts_t2 a cap ys w hW ys.length rfl l (putR l n k) n k _ hbigF (by omega) (by omega) t1 t2 t3 t4 BG DP IP SP SA IS P RB sr ar _ DS O1 O2 O3 K (Lib.hid hK) _ (by rw [beq_eq_false_iff_ne]; omega) (Lib.hid (O4 K)) (by rw [bne_eq_false_iff_eq]; exact hu) (hlast K hK hu)
          · exact puts_t1 a cap ys w hW ys.length rfl l (putR l n k) n k _ hbigF (by omega) (by omega) t1 t2 t3 t4 BG DP IP SP SA IS P RB sr ar _ DS O1 O2 O3 K (Lib.hid hK) _ (by rw [beq_eq_false_iff_ne]; omega) (Lib.hid (O4 K)) (by rw [bne_iff_ne]; exact hu)
end Go.Proofs.Ytkefplaffppklaa
