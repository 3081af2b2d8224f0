/-
  Contracts of Hex, in both texts. Condition: the string is no longer than 1048576 bytes (the law asks no more).
-/
import Derived.Test.YtbpghjnkjakhnaaDoorRows
import Derived.Test.YtbpghjnkjakhnaaDoorKit
namespace Go.Proofs.YtbpghjnkjakhnaaDoor
open Go.RowKit
set_option linter.unusedVariables false

/-- The sixteen digits. -/
def digs : List UInt8 := [48, 49, 50, 51, 52, 53, 54, 55, 56, 57, 97, 98, 99, 100, 101, 102]
def hexD (k : Nat) : Nat := byteAt (bs digs) k
theorem hexD_lt (k : Nat) : (hexD k : Int) < 256 := byteAt_lt _ _
/-- What Hex gives. -/
def hexL (l : List UInt8) : List UInt8 := l.flatMap fun b => [UInt8.ofNat (hexD (b.toNat / 16)), UInt8.ofNat (hexD (b.toNat % 16))]
theorem hexL_snoc (l : List UInt8) (b : UInt8) : hexL (l ++ [b]) = hexL l ++ [UInt8.ofNat (hexD (b.toNat / 16)), UInt8.ofNat (hexD (b.toNat % 16))] := by simp [hexL]
theorem hexL_len (l : List UInt8) : (hexL l).length = 2 * l.length := by
  induction l with
  | nil => rfl
  | cons b l ih => rw [hexL, List.flatMap_cons, List.length_append, List.length_cons, ← hexL, ih]; simp; omega

/-- A digit read out of the table. -/
theorem dig_at {P : Program} {T : TypeId} (hs : P.underlying T = some .string) (k : IntKind) (x : Int) (j : Nat) (hx : x = (j : Int)) (hj : j < 16) (w : World) :
    (Instr.index T (.string { data := #[48, 49, 50, 51, 52, 53, 54, 55, 56, 57, 97, 98, 99, 100, 101, 102] }) (.int k x)).run P w = .ok (.int .u8 (hexD j : Int)) w :=
  index_kind hs k (bs digs) x j hx (by simpa [bs_size, digs] using hj) w

theorem Tryd.hinfoU8 : (Tryd.prog.info? 5).map (fun i => (i.zero, i.size, i.bytes)) = some (some (.int .u8 0), 1, 1) := by kernel_rfl

/-- The two digits of a byte, by its place. -/
theorem hexL_at : ∀ (l : List UInt8) (i : Nat), i < l.length → (hexL l)[2 * i]? = some (UInt8.ofNat (hexD ((l.getD i 0).toNat / 16))) ∧ (hexL l)[2 * i + 1]? = some (UInt8.ofNat (hexD ((l.getD i 0).toNat % 16)))
  | [], i, h => by simp at h
  | b :: l, 0, _ => by simp [hexL]
  | b :: l, i + 1, h => by
    have ih := hexL_at l i (by simpa using h)
    have e : hexL (b :: l) = UInt8.ofNat (hexD (b.toNat / 16)) :: UInt8.ofNat (hexD (b.toNat % 16)) :: hexL l := by simp [hexL]
    rw [e, show 2 * (i + 1) = 2 * i + 1 + 1 by omega, show 2 * i + 1 + 1 + 1 = (2 * i + 1) + 1 + 1 by omega]
    simpa using ih

set_option maxRecDepth 100000 in
set_option maxHeartbeats 400000 in
theorem impl_hex_any (s : ByteArray) (hs : s.size ≤ 1048576) (w : World) :
    Calls Tryd.prog 16 #[.string s] w fun e w' => e = .returned (.string (bs (hexL s.data.toList))) ∧ Below w.heap.size w w' := by
  obtain ⟨i0, hi, hz0, hz1, hz2⟩ := info_parts Tryd.hinfoU8
  obtain ⟨l, hl⟩ : ∃ l, l = s.data.toList := ⟨_, rfl⟩
  have hls : l.length = s.size := by rw [hl]; simp
  rw [← hl]
  have HL := Lib.hid hl; clear hl
  have HLS := Lib.hid hls; clear hls
  have hmk := make_bytes' Tryd.underlying22 hi hz0 hz1 hz2 (2 * s.size) (2 * (s.size : Int)) (by omega) (by omega)
  go_enter Tryd.func16, Tryd.ntmps16
  go_wp2
  clear hmk
  go_loopw [11] (fun i wr => ∃ (j : Nat) (p : List UInt8), j ≤ s.size ∧ p.length = 2 * s.size ∧ (∀ t, t < 2 * j → p[t]? = (hexL l)[t]?) ∧ i = .int .i64 j ∧ wr.ownsRow w.heap.size 5 1 (.slice (some ⟨w.heap.size, 0, none⟩) (2 * s.size) (2 * s.size)) (2 * s.size) (bvs p) ∧ Below w.heap.size w wr)
    (fun i _ => s.size - (intOf i).toNat)
  case atStart =>
    refine ⟨0, List.replicate (2 * s.size) 0, Nat.zero_le _, by simp, fun t ht => absurd ht (by omega), rfl, ?_, (Below.refl _ _).alloc (Nat.le_refl _) _⟩
    have := own_lit (E := 5) w w.heap.size (List.replicate (2 * s.size) 0) (Nat.le_refl _) (by simp [maxLen]; omega)
    simpa using this
  case round =>
    obtain ⟨j, p, hj, hp, hpre, rfl, hown, hbel⟩ := hrel
    have HP := Lib.hid hp; clear hp
    have HE := Lib.hid hpre; clear hpre
    by_cases hlt : j < s.size
    · have hix := index_at Tryd.underlying9 s j (by omega)
      have hb8 := byteAt_lt s j
      obtain ⟨q, hqe⟩ : ∃ q, q = byteAt s j / 16 := ⟨_, rfl⟩
      obtain ⟨r, hre⟩ : ∃ r, r = byteAt s j % 16 := ⟨_, rfl⟩
      have hq16 : (q : Int) < 16 := by omega
      have hr16 : (r : Int) < 16 := by omega
      have hd1 := dig_at Tryd.underlying9 .u8 ((byteAt s j : Int) / 16) q (by omega) (by omega)
      have hd2 := dig_at Tryd.underlying9 .u8 ((byteAt s j : Int) % 16) r (by omega) (by omega)
      have HQ := Lib.hid hqe; clear hqe
      have HR := Lib.hid hre; clear hre
      obtain ⟨b0, hc⟩ : ∃ b0 : Int, wr.cell? ⟨w.heap.size, 2 * j, none⟩ = some (.int .u8 b0) := ⟨_, (hown.cellAt (2 * j) (by omega)).trans (bvs_at p (2 * j) (by rw [HP.out]; omega))⟩
      obtain ⟨b1, hc1⟩ : ∃ b0 : Int, wr.cell? ⟨w.heap.size, 2 * j + 1, none⟩ = some (.int .u8 b0) := ⟨_, (hown.cellAt (2 * j + 1) (by omega)).trans (bvs_at p (2 * j + 1) (by rw [HP.out]; omega))⟩
      have hz := hown.frozenAt (2 * j)
      have hz' := hown.frozenAt (2 * j + 1)
      go_wp2
      go_roundw
      case rel =>
        have e1 := bv_ofNat (hexD q : Int) (by omega) (hexD_lt q)
        have e2 := bv_ofNat (hexD r : Int) (by omega) (hexD_lt r)
        rw [Int.toNat_natCast] at e1 e2
        rw [← e1, ← e2]
        have s1 := hown.stored (2 * j) (bv (UInt8.ofNat (hexD q)))
        rw [bvs_set] at s1
        have s2 := s1.1.stored (2 * j + 1) (bv (UInt8.ofNat (hexD r)))
        rw [bvs_set] at s2
        refine ⟨j + 1, (p.set (2 * j) (UInt8.ofNat (hexD q))).set (2 * j + 1) (UInt8.ofNat (hexD r)), by omega, by simpa using HP.out, ?_, by go_num, s2.1, (hbel.setCell (Nat.le_refl _) _).setCell (Nat.le_refl _) _⟩
        obtain ⟨g1, g2⟩ := hexL_at l j (by rw [HLS.out]; exact hlt)
        have hg : (l.getD j 0).toNat = byteAt s j := by rw [HL.out]; rfl
        rw [hg, ← HQ.out] at g1
        rw [hg, ← HR.out] at g2
        intro t ht
        by_cases h1 : t = 2 * j + 1
        · subst h1
          rw [List.getElem?_set_self (by rw [List.length_set, HP.out]; omega), g2]
        · rw [List.getElem?_set_ne (fun e => h1 e.symm)]
          by_cases h2 : t = 2 * j
          · subst h2
            rw [List.getElem?_set_self (by rw [HP.out]; omega), g1]
          · rw [List.getElem?_set_ne (fun e => h2 e.symm), HE.out t (by omega)]
      case measure => simp [intOf]; omega
    · obtain rfl : j = s.size := by omega
      have hcv := conv_own Tryd.underlying22 Tryd.underlying5 Tryd.underlying9 hown
      have hpe : p = hexL l := List.ext_getElem? fun t => by
        by_cases ht : t < 2 * s.size
        · exact HE.out t ht
        · rw [List.getElem?_eq_none (by rw [HP.out]; omega), List.getElem?_eq_none (by rw [hexL_len, HLS.out]; omega)]
      rw [hpe] at hcv
      clear hpe
      go_wp2
      go_ret
      exact ⟨rfl, hbel⟩

end Go.Proofs.YtbpghjnkjakhnaaDoor
