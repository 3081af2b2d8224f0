/-
  Contracts of Unhex, in both texts. Condition: the string is no longer than 1048576 bytes (the law asks no more).
-/
import Derived.Test.YtbpghjnkjakhnaaDoorHex
import Derived.Lib.Bytealg
namespace Go.Proofs.YtbpghjnkjakhnaaDoor
open Go.RowKit
set_option linter.unusedVariables false

/-- The value of a digit, -1 where it is none. -/
def hexV (c : Nat) : Int := Lib.indexByte digs c.toUInt8
theorem hexV_hit : ∀ (c : Fin 256) (k : Fin 16), hexD k.val = c.val → hexV c.val = k.val := by decide +kernel
theorem hexV_none : ∀ (c : Fin 256), (∀ k : Fin 16, hexD k.val ≠ c.val) → hexV c.val = -1 := by decide +kernel
theorem hexV_range : ∀ (c : Fin 256), -1 ≤ hexV c.val ∧ hexV c.val ≤ 15 := by decide +kernel

set_option maxHeartbeats 400000 in
theorem indexbyte_any (c : Nat) (hc : c < 256) (w : World) :
    Calls Tryd.prog 27 #[.string { data := #[48, 49, 50, 51, 52, 53, 54, 55, 56, 57, 97, 98, 99, 100, 101, 102] }, .int .u8 (c : Int)] w fun e w' => e = .returned (.int .i64 (hexV c)) ∧ w = w' := by
  have hy : ∀ w, (callFunc 47 #[.string { data := #[48, 49, 50, 51, 52, 53, 54, 55, 56, 57, 97, 98, 99, 100, 101, 102] }, .int .u8 (c : Int)]).run Tryd.prog w = .ok (.value (.int .i64 (hexV c))) w := fun w => by
    rw [run_callFunc_extern Tryd.func47 (by kernel_rfl) (by kernel_rfl) (by kernel_rfl) (e := Extern.BytealgIndexByte.indexByte) (by kernel_rfl), Lib.run_indexByteString]
    rfl
  go_enter Tryd.func27, Tryd.ntmps27
  go_wp2
  go_ret
  exact ⟨rfl, rfl⟩

/-- The pair at place `i`: both digits are digits; the byte that they say. -/
def unV (l : List UInt8) (i : Nat) : Bool := decide (0 ≤ hexV (l.getD (2 * i) 0).toNat) && decide (0 ≤ hexV (l.getD (2 * i + 1) 0).toNat)
def unB (l : List UInt8) (i : Nat) : UInt8 := UInt8.ofNat (16 * hexV (l.getD (2 * i) 0).toNat + hexV (l.getD (2 * i + 1) 0).toNat).toNat
def unOk (l : List UInt8) : Bool := decide (l.length % 2 = 0) && (List.range (l.length / 2)).all (unV l)
/-- What Unhex gives. -/
def unL (l : List UInt8) : List UInt8 := if unOk l then (List.range (l.length / 2)).map (unB l) else []
theorem unOk_true (l : List UInt8) (h2 : l.length % 2 = 0) (h : ∀ t, t < l.length / 2 → unV l t = true) : unOk l = true := by
  unfold unOk
  rw [decide_eq_true h2, Bool.true_and, List.all_eq_true]
  intro x hx
  exact h x (List.mem_range.1 hx)
theorem unOk_odd (l : List UInt8) (h2 : l.length % 2 ≠ 0) : unOk l = false := by
  unfold unOk
  rw [decide_eq_false h2, Bool.false_and]
theorem unOk_bad (l : List UInt8) (t : Nat) (ht : t < l.length / 2) (h : unV l t = false) : unOk l = false := by
  unfold unOk
  rw [Bool.and_eq_false_iff]
  right
  rw [List.all_eq_false]
  exact ⟨t, List.mem_range.2 ht, by simp [h]⟩
theorem unMap_snoc (l : List UInt8) (j : Nat) : (List.range (j + 1)).map (unB l) = (List.range j).map (unB l) ++ [unB l j] := by
  rw [List.range_succ, List.map_append]
  rfl

set_option maxRecDepth 100000 in
set_option maxHeartbeats 1000000 in
theorem impl_unhex_any (s : ByteArray) (hs : s.size ≤ 1048576) (w : World) :
    Calls Tryd.prog 15 #[.string s] w fun e w' => e = .returned (.tuple #[.string (bs (unL s.data.toList)), .bool (unOk s.data.toList)]) ∧ Below w.heap.size w w' := by
  obtain ⟨i0, hi, hz0, hz1, hz2⟩ := info_parts Tryd.hinfoU8
  obtain ⟨l, hl⟩ : ∃ l, l = s.data.toList := ⟨_, rfl⟩
  have hls : l.length = s.size := by rw [hl]; simp
  rw [← hl]
  have hat : ∀ t, (l.getD t 0).toNat = byteAt s t := fun t => by rw [hl]; rfl
  have HL := Lib.hid hl; clear hl
  have HLS := Lib.hid hls; clear hls
  have HAT := Lib.hid hat; clear hat
  by_cases hodd : s.size % 2 = 1
  · have hq : (((s.size : Int) % 2) != 0) = true := by rw [bne_iff_ne]; omega
    have HO := Lib.hid hodd; clear hodd
    go_enter Tryd.func15, Tryd.ntmps15
    go_wp2
    go_ret2
    have e1 : unOk l = false := unOk_odd l (by rw [HLS.out, HO.out]; decide)
    exact ⟨by rw [unL, e1]; rfl, Below.refl _ _⟩
  · have hq : (((s.size : Int) % 2) != 0) = false := by rw [bne_eq_false_iff_eq]; omega
    obtain ⟨n, hn⟩ : ∃ n, s.size = 2 * n := ⟨s.size / 2, by omega⟩
    have hn1 : s.size ≤ 2 * n := by omega
    have hn2 : 2 * n ≤ s.size := by omega
    have hdiv : (s.size : Int) / 2 = (n : Int) := by omega
    have hln : l.length / 2 = n := by rw [HLS.out]; omega
    have HLN := Lib.hid hln; clear hln
    have HO := Lib.hid hn; clear hn hodd
    have hmk := make_bytes Tryd.underlying22 hi hz0 hz1 hz2 n (by omega)
    go_enter Tryd.func15, Tryd.ntmps15
    go_wp2
    clear hq hmk hdiv
    go_loopw [18] (fun i wr => ∃ (j : Nat) (p : List UInt8), j ≤ n ∧ p.length = n ∧ (∀ t, t < j → p[t]? = some (unB l t)) ∧ (∀ t, t < j → unV l t = true) ∧ i = .int .i64 j ∧ wr.ownsRow w.heap.size 5 1 (.slice (some ⟨w.heap.size, 0, none⟩) n n) n (bvs p) ∧ Below w.heap.size w wr)
      (fun i _ => n - (intOf i).toNat)
    case atStart =>
      refine ⟨0, List.replicate n 0, Nat.zero_le _, by simp, fun t ht => absurd ht (by omega), fun t ht => absurd ht (by omega), rfl, ?_, (Below.refl _ _).alloc (Nat.le_refl _) _⟩
      have := own_lit (E := 5) w w.heap.size (List.replicate n 0) (Nat.le_refl _) (by simp [maxLen]; omega)
      simpa using this
    case round =>
      obtain ⟨j, p, hj, hp, hpre, hgood, rfl, hown, hbel⟩ := hrel
      have HG := Lib.hid hgood; clear hgood
      have HP := Lib.hid hp; clear hp
      have HE := Lib.hid hpre; clear hpre
      by_cases hlt : j < n
      · have hi1 := index_at' Tryd.underlying9 s (2 * (j : Int)) (2 * j) (by omega) (by omega)
        have hi2 := index_at' Tryd.underlying9 s (2 * (j : Int) + 1) (2 * j + 1) (by omega) (by omega)
        have hb1 : byteAt s (2 * j) < 256 := by have := byteAt_lt s (2 * j); omega
        have hb2 : byteAt s (2 * j + 1) < 256 := by have := byteAt_lt s (2 * j + 1); omega
        obtain ⟨A, hA⟩ : ∃ A, A = hexV (byteAt s (2 * j)) := ⟨_, rfl⟩
        obtain ⟨B, hB⟩ : ∃ B, B = hexV (byteAt s (2 * j + 1)) := ⟨_, rfl⟩
        have c1 := indexbyte_any (byteAt s (2 * j)) hb1
        have c2 := indexbyte_any (byteAt s (2 * j + 1)) hb2
        rw [← hA] at c1
        rw [← hB] at c2
        have hA1 : A ≤ 15 := by rw [hA]; exact (hexV_range ⟨_, hb1⟩).2
        have hB1 : B ≤ 15 := by rw [hB]; exact (hexV_range ⟨_, hb2⟩).2
        have C1 := Lib.hid c1; clear c1
        have C2 := Lib.hid c2; clear c2
        have HA := Lib.hid hA; clear hA
        have HB := Lib.hid hB; clear hB
        by_cases ha : A < 0
        · go_wp2_with fail
          refine (C1.out _).mono ?_
          rintro e w' ⟨rfl, rfl⟩
          go_wp2_with fail
          refine (C2.out _).mono ?_
          rintro e w' ⟨rfl, rfl⟩
          go_wp2
          go_ret2
          have e1 : unOk l = false := unOk_bad l j (by rw [HLN.out]; exact hlt) (by unfold unV; rw [HAT.out, ← HA.out, decide_eq_false (by omega)]; rfl)
          exact ⟨by rw [unL, e1]; rfl, hbel⟩
        · by_cases hb : B < 0
          · go_wp2_with fail
            refine (C1.out _).mono ?_
            rintro e w' ⟨rfl, rfl⟩
            go_wp2_with fail
            refine (C2.out _).mono ?_
            rintro e w' ⟨rfl, rfl⟩
            go_wp2
            go_ret2
            have e1 : unOk l = false := unOk_bad l j (by rw [HLN.out]; exact hlt) (by unfold unV; rw [HAT.out, HAT.out, ← HA.out, ← HB.out, decide_eq_false (p := 0 ≤ B) (by omega), Bool.and_false])
            exact ⟨by rw [unL, e1]; rfl, hbel⟩
          · have hor : bits .or .i64 (A * 16) B = A * 16 + B := or_i64 4 _ _ (by omega) (by omega) (by omega) (by omega) (by omega) (by omega)
            obtain ⟨b0, hc⟩ : ∃ b0 : Int, wr.cell? ⟨w.heap.size, j, none⟩ = some (.int .u8 b0) := ⟨_, (hown.cellAt j (by omega)).trans (bvs_at p j (by rw [HP.out]; omega))⟩
            have hz := hown.frozenAt j
            go_wp2_with fail
            refine (C1.out _).mono ?_
            rintro e w' ⟨rfl, rfl⟩
            go_wp2_with fail
            refine (C2.out _).mono ?_
            rintro e w' ⟨rfl, rfl⟩
            go_wp2
            go_roundw
            case rel =>
              have e2 : unB l j = UInt8.ofNat (A * 16 + B).toNat := by unfold unB; rw [HAT.out, HAT.out, ← HA.out, ← HB.out, Int.mul_comm]
              have e3 := bv_ofNat (A * 16 + B) (by omega) (by omega)
              have s1 := hown.stored j (bv (unB l j))
              rw [bvs_set, e2, e3] at s1
              refine ⟨j + 1, p.set j (unB l j), by omega, by simpa using HP.out, ?_, ?_, by go_num, by rw [e2]; exact s1.1, hbel.setCell (Nat.le_refl _) _⟩
              · intro t ht
                by_cases htj : t = j
                · subst htj
                  rw [List.getElem?_set_self (by rw [HP.out]; omega)]
                · rw [List.getElem?_set_ne (fun e => htj e.symm), HE.out t (by omega)]
              · intro t ht
                by_cases htj : t = j
                · subst htj
                  unfold unV
                  rw [HAT.out, HAT.out, ← HA.out, ← HB.out, decide_eq_true (p := 0 ≤ A) (by omega), decide_eq_true (p := 0 ≤ B) (by omega)]
                  rfl
                · exact HG.out t (by omega)
            case measure => simp [intOf]; omega
      · obtain rfl : j = n := by omega
        have hcv := conv_own Tryd.underlying22 Tryd.underlying5 Tryd.underlying9 hown
        have hpe : p = (List.range j).map (unB l) := List.ext_getElem? fun t => by
          by_cases ht : t < j
          · rw [HE.out t ht, List.getElem?_map, List.getElem?_range ht]; rfl
          · rw [List.getElem?_eq_none (by rw [HP.out]; omega), List.getElem?_eq_none (by simp; omega)]
        rw [hpe] at hcv
        clear hpe
        go_wp2
        go_ret2
        have e1 : unOk l = true := unOk_true l (by rw [HLS.out, HO.out]; omega) (by rw [HLN.out]; exact HG.out)
        exact ⟨by rw [unL, e1, if_pos rfl, HLN.out]; rfl, hbel⟩

end Go.Proofs.YtbpghjnkjakhnaaDoor
