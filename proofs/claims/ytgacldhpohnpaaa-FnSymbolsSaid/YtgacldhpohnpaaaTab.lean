/-
  Contracts of UeTable and TableOk, in both texts. No condition but those that each lemma states.
  Contracts of the model's UeTable and of TableOk in both texts. No condition but those that each lemma states.
  Contracts of TableOk in both texts. No condition but those that each lemma states.
-/
import Derived.Test.YtgacldhpohnpaaaEnt
import Derived.Test.YtgacldhpohnpaaaUeBits
namespace Go.Proofs.Ytgacldhpohnpaaa
open Go.RowKit
set_option linter.unusedVariables false

theorem bitLen_at (v k : Nat) (h1 : 2 ^ k ≤ v) (h2 : v < 2 ^ (k + 1)) (hv : v ≤ 65535) : Lib.bitLen v = k + 1 := by
  have h0 : v ≠ 0 := by have := Nat.two_pow_pos k; omega
  obtain ⟨a, b, c⟩ := Lib.bitLenAux_bounds 64 v (by omega) h0
  unfold Lib.bitLen
  generalize Lib.bitLenAux 64 v = L at a b c ⊢
  rcases Nat.lt_trichotomy L (k + 1) with h | h | h
  · have := Nat.pow_le_pow_right (n := 2) (by decide) (show L ≤ k by omega)
    omega
  · exact h
  · have := Nat.pow_le_pow_right (n := 2) (by decide) (show k + 1 ≤ L - 1 by omega)
    omega
/-- The entry of nine bits: the size of the code that begins them, and its number. -/
def ueE (v : Nat) : Int × Int :=
  if v < 16 then (0, 0) else if v < 32 then (9, (v : Int) - 1) else if v < 64 then (7, ((v / 4 : Nat) : Int) - 1) else if v < 128 then (5, ((v / 16 : Nat) : Int) - 1) else if v < 256 then (3, ((v / 64 : Nat) : Int) - 1) else (1, ((v / 256 : Nat) : Int) - 1)
/-- The table. -/
def ueT : EntL := (List.range 512).map ueE
theorem ueT_len : ueT.length = 512 := by simp [ueT]
theorem ueT_at (v : Nat) (h : v < 512) : entAt ueT v = ueE v := by
  unfold entAt
  rw [List.getD_eq_getElem?_getD]
  simp [ueT, h]

/-- The entry as a value. -/
def ev (p : Int × Int) : Value := .agg #[.int .i64 p.1, .int .i64 p.2]

set_option maxRecDepth 100000 in
set_option maxHeartbeats 1000000 in
theorem entryof_9 (v : Nat) (h1 : 16 ≤ v) (h2 : v < 32) (w : World) :
    Calls Try.prog 70 #[.int .i64 9, .int .i64 v] w fun e w' => e = .returned (.agg #[.int .i64 9, .int .i64 ((v : Int) - 1)]) ∧ Below w.heap.size w w' := by
  have HL := Lib.hid (len_any v (by omega))
  rw [bitLen_at v 4 (by omega) (by omega) (by omega)] at HL
  go_enter Try.func70, Try.ntmps70
  go_wp2_with fail
  refine (HL.out _).mono ?_
  rintro e w' ⟨rfl, rfl⟩
  go_wp2
  exact bodyPost_ret (v := .agg #[.int .i64 9, .int .i64 ((v : Int) - 1)]) (by simp [results, Try.results70, go_sem]) rfl ⟨rfl, (Below.refl _ _).alloc (Nat.le_refl _) _⟩
set_option maxRecDepth 100000 in
set_option maxHeartbeats 1000000 in
theorem entryof_7 (v : Nat) (h1 : 32 ≤ v) (h2 : v < 64) (w : World) :
    Calls Try.prog 70 #[.int .i64 9, .int .i64 v] w fun e w' => e = .returned (.agg #[.int .i64 7, .int .i64 (((v / 4 : Nat) : Int) - 1)]) ∧ Below w.heap.size w w' := by
  have HL := Lib.hid (len_any v (by omega))
  rw [bitLen_at v 5 (by omega) (by omega) (by omega)] at HL
  go_enter Try.func70, Try.ntmps70
  go_wp2_with fail
  refine (HL.out _).mono ?_
  rintro e w' ⟨rfl, rfl⟩
  go_wp2
  exact bodyPost_ret (v := .agg #[.int .i64 7, .int .i64 (((v / 4 : Nat) : Int) - 1)]) (by simp [results, Try.results70, go_sem]) rfl ⟨rfl, (Below.refl _ _).alloc (Nat.le_refl _) _⟩
set_option maxRecDepth 100000 in
set_option maxHeartbeats 1000000 in
theorem entryof_5 (v : Nat) (h1 : 64 ≤ v) (h2 : v < 128) (w : World) :
    Calls Try.prog 70 #[.int .i64 9, .int .i64 v] w fun e w' => e = .returned (.agg #[.int .i64 5, .int .i64 (((v / 16 : Nat) : Int) - 1)]) ∧ Below w.heap.size w w' := by
  have HL := Lib.hid (len_any v (by omega))
  rw [bitLen_at v 6 (by omega) (by omega) (by omega)] at HL
  go_enter Try.func70, Try.ntmps70
  go_wp2_with fail
  refine (HL.out _).mono ?_
  rintro e w' ⟨rfl, rfl⟩
  go_wp2
  exact bodyPost_ret (v := .agg #[.int .i64 5, .int .i64 (((v / 16 : Nat) : Int) - 1)]) (by simp [results, Try.results70, go_sem]) rfl ⟨rfl, (Below.refl _ _).alloc (Nat.le_refl _) _⟩
set_option maxRecDepth 100000 in
set_option maxHeartbeats 1000000 in
theorem entryof_3 (v : Nat) (h1 : 128 ≤ v) (h2 : v < 256) (w : World) :
    Calls Try.prog 70 #[.int .i64 9, .int .i64 v] w fun e w' => e = .returned (.agg #[.int .i64 3, .int .i64 (((v / 64 : Nat) : Int) - 1)]) ∧ Below w.heap.size w w' := by
  have HL := Lib.hid (len_any v (by omega))
  rw [bitLen_at v 7 (by omega) (by omega) (by omega)] at HL
  go_enter Try.func70, Try.ntmps70
  go_wp2_with fail
  refine (HL.out _).mono ?_
  rintro e w' ⟨rfl, rfl⟩
  go_wp2
  exact bodyPost_ret (v := .agg #[.int .i64 3, .int .i64 (((v / 64 : Nat) : Int) - 1)]) (by simp [results, Try.results70, go_sem]) rfl ⟨rfl, (Below.refl _ _).alloc (Nat.le_refl _) _⟩
set_option maxRecDepth 100000 in
set_option maxHeartbeats 1000000 in
theorem entryof_1 (v : Nat) (h1 : 256 ≤ v) (h2 : v < 512) (w : World) :
    Calls Try.prog 70 #[.int .i64 9, .int .i64 v] w fun e w' => e = .returned (.agg #[.int .i64 1, .int .i64 (((v / 256 : Nat) : Int) - 1)]) ∧ Below w.heap.size w w' := by
  have HL := Lib.hid (len_any v (by omega))
  rw [bitLen_at v 8 (by omega) (by omega) (by omega)] at HL
  go_enter Try.func70, Try.ntmps70
  go_wp2_with fail
  refine (HL.out _).mono ?_
  rintro e w' ⟨rfl, rfl⟩
  go_wp2
  exact bodyPost_ret (v := .agg #[.int .i64 1, .int .i64 (((v / 256 : Nat) : Int) - 1)]) (by simp [results, Try.results70, go_sem]) rfl ⟨rfl, (Below.refl _ _).alloc (Nat.le_refl _) _⟩
set_option maxRecDepth 100000 in
set_option maxHeartbeats 1000000 in
theorem entryof_0 (v : Nat) (h2 : v < 16) (w : World) :
    Calls Try.prog 70 #[.int .i64 9, .int .i64 v] w fun e w' => e = .returned (.agg #[.int .i64 0, .int .i64 0]) ∧ Below w.heap.size w w' := by
  have HL := Lib.hid (len_any v (by omega))
  have hL := Lib.bitLen_le v 4 (by decide) (by omega)
  obtain ⟨L, hLd⟩ : ∃ L, L = Lib.bitLen v := ⟨_, rfl⟩
  rw [← hLd] at HL hL
  clear hLd
  go_enter Try.func70, Try.ntmps70
  go_wp2_with fail
  refine (HL.out _).mono ?_
  rintro e w' ⟨rfl, rfl⟩
  go_wp2
  exact bodyPost_ret (v := .agg #[.int .i64 0, .int .i64 0]) (by simp [results, Try.results70, go_sem]) rfl ⟨rfl, (Below.refl _ _).alloc (Nat.le_refl _) _⟩
theorem entryof_any (v : Nat) (hv : v < 512) (w : World) :
    Calls Try.prog 70 #[.int .i64 9, .int .i64 v] w fun e w' => e = .returned (ev (ueE v)) ∧ Below w.heap.size w w' := by
  unfold ev ueE
  by_cases h1 : v < 16
  · rw [if_pos h1]; exact entryof_0 v h1 w
  rw [if_neg h1]
  by_cases h2 : v < 32
  · rw [if_pos h2]; exact entryof_9 v (by omega) h2 w
  rw [if_neg h2]
  by_cases h3 : v < 64
  · rw [if_pos h3]; exact entryof_7 v (by omega) h3 w
  rw [if_neg h3]
  by_cases h4 : v < 128
  · rw [if_pos h4]; exact entryof_5 v (by omega) h4 w
  rw [if_neg h4]
  by_cases h5 : v < 256
  · rw [if_pos h5]; exact entryof_3 v (by omega) h5 w
  rw [if_neg h5]
  exact entryof_1 v (by omega) hv w

set_option maxRecDepth 100000 in
set_option maxHeartbeats 1000000 in
theorem tableof_any (w : World) :
    Calls Try.prog 69 #[.int .i64 9, .func (.func 70) #[.int .i64 9] #[]] w fun e w' => ∃ A' cap', e = .returned (.slice A' ueT.length cap') ∧ OwnE w' w.heap.size A' cap' ueT ∧ Below w.heap.size w w' := by
  have hmk := make_ents 512 512 (by decide) (by decide)
  have hOI : ∀ w' A' cap', OwnE w' w.heap.size A' cap' ueT ↔ w'.ownsRow w.heap.size 45 2 (.slice A' 512 cap') 512 (ivs (els ueT)) := fun w' A' cap' => by unfold OwnE; rw [ueT_len]
  simp only [hOI, ueT_len]
  clear hOI
  obtain ⟨z, hz⟩ : ∃ z : EntL, z = List.replicate 512 (0, 0) := ⟨_, rfl⟩
  rw [← hz] at hmk
  have hzl : z.length = 512 := by rw [hz]; simp
  have HZ := Lib.hid hz; clear hz
  have HZL := Lib.hid hzl; clear hzl
  go_enter Try.func69, Try.ntmps69
  go_wp2
  clear hmk
  go_loopw [12] (fun i wr => ∃ (j : Nat) (p : EntL), j ≤ 512 ∧ p.length = 512 ∧ (∀ t, t < j → entAt p t = ueE t) ∧ i = .int .i64 j ∧ wr.ownsRow w.heap.size 45 2 (.slice (some ⟨w.heap.size, 0, none⟩) 512 512) 512 (ivs (els p)) ∧ Below w.heap.size w wr)
    (fun i _ => 512 - (intOf i).toNat)
  case atStart =>
    refine ⟨0, z, Nat.zero_le _, HZL.out, fun t ht => absurd ht (by omega), rfl, ?_, (Below.refl _ _).alloc (Nat.le_refl _) _⟩
    have := own_ents w w.heap.size z (Nat.le_refl _) (by rw [HZL.out]; simp [maxLen])
    unfold OwnE at this
    rw [HZL.out] at this
    simpa using this
  case round =>
    obtain ⟨j, p, hj, hp, hpre, rfl, hown, hbel⟩ := hrel
    have HE := Lib.hid hpre; clear hpre
    have HP := Lib.hid hp; clear hp
    by_cases hlt : j < 512
    · obtain ⟨x, hx⟩ : ∃ x, x = ueE j := ⟨_, rfl⟩
      have HC := Lib.hid (entryof_any j hlt)
      rw [← hx] at HC
      obtain ⟨x1, x2⟩ := x
      unfold ev at HC
      have HX := Lib.hid hx; clear hx
      have HO := Lib.hid hown; clear hown
      have HBL := Lib.hid hbel; clear hbel
      go_wp2_with fail
      refine (HC.out _).mono ?_
      rintro e w' ⟨rfl, hb'⟩
      have hown : w'.ownsRow w.heap.size 45 2 (.slice (some ⟨w.heap.size, 0, none⟩) 512 512) 512 (ivs (els p)) :=
        World.ownsRow.kept (row := none) HO.out ⟨hb'.os, hb'.tape, hb'.output, hb'.size, fun k hk _ => hb'.block k hk⟩ (by simp [Value.ownBlock])
      have hbel : Below w.heap.size w w' := below_up HBL.out hb' HBL.out.size
      clear hb'
      have hel := els_len p
      have hpl := HP.out
      obtain ⟨b0, hc⟩ : ∃ b0 : Int, w'.cell? ⟨w.heap.size, j * 2, none⟩ = some (.int .i64 b0) := ⟨_, (hown.cellAt (j * 2) (by omega)).trans (ivs_at (els p) (j * 2) (by omega))⟩
      obtain ⟨b1, hc1⟩ : ∃ b0 : Int, w'.cell? ⟨w.heap.size, j * 2 + 1, none⟩ = some (.int .i64 b0) := ⟨_, (hown.cellAt (j * 2 + 1) (by omega)).trans (ivs_at (els p) (j * 2 + 1) (by omega))⟩
      have hz := hown.frozenAt (j * 2)
      have hz1 := hown.frozenAt (j * 2 + 1)
      clear hel hpl
      go_wp2
      go_roundw
      case rel =>
        have s1 := hown.stored (j * 2) (.int .i64 x1)
        have s2 := s1.1.stored (j * 2 + 1) (.int .i64 x2)
        have s21 := s2.1
        rw [ivs_set, ivs_set, els_set] at s21
        refine ⟨j + 1, p.set j (x1, x2), by omega, by simpa using HP.out, ?_, by go_num, s21, (hbel.setCell (Nat.le_refl _) _).setCell (Nat.le_refl _) _⟩
        intro t ht
        by_cases htj : t = j
        · subst htj
          rw [entAt_set_same _ _ _ (by rw [HP.out]; omega)]
          exact HX.out
        · rw [entAt_set_other _ _ _ _ htj]
          exact HE.out t (by omega)
      case measure => simp [intOf]; omega
    · obtain rfl : j = 512 := by omega
      go_wp2
      go_ret
      have e : p = ueT := ents_ext _ _ (by rw [HP.out, ueT_len]) fun t h1 => by
        have hp := HP.out
        rw [HE.out t (by omega), ueT_at t (by omega)]
      rw [e] at hown
      exact ⟨_, _, rfl, hown, hbel⟩

set_option maxRecDepth 100000 in
set_option maxHeartbeats 1000000 in
theorem impl_uetable_any (w : World) :
    Calls Try.prog 16 #[] w fun e w' => ∃ A' cap', e = .returned (.slice A' ueT.length cap') ∧ OwnE w' w.heap.size A' cap' ueT ∧ Below w.heap.size w w' := by
  have HC := Lib.hid tableof_any
  have hmf : ∀ (fn : Fn) (first cap : Array Value) (w : World), (Instr.makeFunc fn first cap).run Try.prog w = .ok (.func fn first cap) w := fun _ _ _ _ => rfl
  go_enter Try.func16, Try.ntmps16
  go_wp2_with fail
  refine (HC.out _).mono ?_
  rintro e w' ⟨A', cap', rfl, ho, hb⟩
  have HO := Lib.hid ho; clear ho
  have HB := Lib.hid hb; clear hb
  go_wp2
  go_ret
  exact ⟨_, _, rfl, HO.out, HB.out⟩

end Go.Proofs.Ytgacldhpohnpaaa

namespace Go.Proofs.Ytgacldhpohnpaaa
open Go.RowKit
set_option linter.unusedVariables false

/-- The size of a number's code; the bits that it leaves of nine. -/
def ueSz (n : Nat) : Nat := 2 * ueZ n + 1
/-- The table while it is filled: the first places of a number's run; the numbers before. -/
def fillK (t : EntL) (n : Nat) : Nat → EntL
  | 0 => t
  | k + 1 => (fillK t n k).set ((n + 1) * 2 ^ (9 - ueSz n) + k) ((ueSz n : Int), (n : Int))
def tabN : Nat → EntL
  | 0 => List.replicate 512 (0, 0)
  | n + 1 => fillK (tabN n) n (2 ^ (9 - ueSz n))
theorem fillK_len (t : EntL) (n : Nat) : ∀ k, (fillK t n k).length = t.length
  | 0 => rfl
  | k + 1 => by rw [fillK, List.length_set, fillK_len t n k]
theorem tabN_len : ∀ n, (tabN n).length = 512
  | 0 => List.length_replicate
  | n + 1 => by rw [tabN, fillK_len, tabN_len n]
theorem tabN_end : tabN 31 = ueT := by decide +kernel
theorem ueSz_facts : ∀ n, n < 31 → ueSz n ≤ 9 ∧ 1 ≤ ueSz n ∧ (n + 1) * 2 ^ (9 - ueSz n) + 2 ^ (9 - ueSz n) ≤ 512 ∧ ueSz n % 2 = 1 := by decide +kernel
theorem ueSz_31 : ueSz 31 = 11 := by decide +kernel
theorem uesize_at (n : Nat) (hn : n ≤ 31) (w : World) : Calls Try.prog 105 #[.int .i64 n] w fun e w' => e = .returned (.int .i64 (ueSz n)) ∧ w = w' := by
  have h := spec_uesize_any n w
  have e : usV (n : Int) = (ueSz n : Int) := by
    unfold usV ueR
    rw [show ueOk (n : Int) = true by simp [ueOk]; omega, if_pos rfl, Int.toNat_natCast, ueL_len]
    rfl
  rwa [e] at h

set_option maxRecDepth 100000 in
set_option maxHeartbeats 1000000 in
theorem spec_uetable_any (w : World) :
    Calls Try.prog 72 #[] w fun e w' => ∃ A' cap', e = .returned (.slice A' ueT.length cap') ∧ OwnE w' w.heap.size A' cap' ueT ∧ Below w.heap.size w w' := by
  have hmk := make_ents 512 512 (by decide) (by decide)
  have hOI : ∀ w' A' cap', OwnE w' w.heap.size A' cap' ueT ↔ w'.ownsRow w.heap.size 45 2 (.slice A' 512 cap') 512 (ivs (els ueT)) := fun w' A' cap' => by unfold OwnE; rw [ueT_len]
  simp only [hOI, ueT_len]
  clear hOI
  obtain ⟨z, hz⟩ : ∃ z : EntL, z = tabN 0 := ⟨_, rfl⟩
  rw [show List.replicate 512 (0, 0) = z from hz.symm] at hmk
  have hzl : z.length = 512 := by rw [hz, tabN_len]
  have HZ := Lib.hid hz; clear hz
  have HZL := Lib.hid hzl; clear hzl
  go_enter Try.func72, Try.ntmps72
  go_wp2
  clear hmk
  go_loopw [2] (fun i wr => ∃ (j : Nat), j ≤ 31 ∧ i = .int .i64 j ∧ wr.ownsRow w.heap.size 45 2 (.slice (some ⟨w.heap.size, 0, none⟩) 512 512) 512 (ivs (els (tabN j))) ∧ Below w.heap.size w wr)
    (fun i _ => 31 - (intOf i).toNat)
  case atStart =>
    refine ⟨0, Nat.zero_le _, rfl, ?_, (Below.refl _ _).alloc (Nat.le_refl _) _⟩
    have := own_ents w w.heap.size z (Nat.le_refl _) (by rw [HZL.out]; simp [maxLen])
    unfold OwnE at this
    rw [HZL.out] at this
    rw [← HZ.out]
    simpa using this
  case round =>
    obtain ⟨j, hj, rfl, hown, hbel⟩ := hrel
    have HU := Lib.hid (uesize_at j hj)
    by_cases hlt : j < 31
    · obtain ⟨f1, f2, f3, f4⟩ := ueSz_facts j hlt
      obtain ⟨S, hS⟩ : ∃ S, S = ueSz j := ⟨_, rfl⟩
      rw [← hS] at HU f1 f2 f3 f4
      have HS := Lib.hid hS; clear hS
      have : S = 1 ∨ S = 3 ∨ S = 5 ∨ S = 7 ∨ S = 9 := by omega
      have HO := Lib.hid hown; clear hown
      have HBL := Lib.hid hbel; clear hbel
      rcases this with rfl | rfl | rfl | rfl | rfl
      · simp only [show 9 - 1 = 8 from rfl, show (2 : Nat) ^ 8 = 256 from rfl] at f3
        clear f1 f2 f4
        go_wp2_with fail
        refine (HU.out _).mono ?_
        rintro e w' ⟨rfl, rfl⟩
        go_wp2_with fail
        refine (HU.out _).mono ?_
        rintro e w' ⟨rfl, rfl⟩
        go_wp2_with fail
        go_loopw [5] (fun i wr => ∃ (k : Nat), k ≤ 256 ∧ i = .int .i64 k ∧ wr.ownsRow w.heap.size 45 2 (.slice (some ⟨w.heap.size, 0, none⟩) 512 512) 512 (ivs (els (fillK (tabN j) j k))) ∧ Below w.heap.size w wr)
          (fun i _ => 256 - (intOf i).toNat)
        case atStart => exact ⟨0, Nat.zero_le _, rfl, HO.out, HBL.out⟩
        case round =>
          obtain ⟨k, hk, rfl, hown, hbel⟩ := hrel
          by_cases hlk : k < 256
          · have hel := els_len (fillK (tabN j) j k)
            have hfl := fillK_len (tabN j) j k
            have htl := tabN_len j
            obtain ⟨b0, hc⟩ : ∃ b0 : Int, wr.cell? ⟨w.heap.size, ((j + 1) * 256 + k) * 2, none⟩ = some (.int .i64 b0) := ⟨_, (hown.cellAt (((j + 1) * 256 + k) * 2) (by omega)).trans (ivs_at (els (fillK (tabN j) j k)) (((j + 1) * 256 + k) * 2) (by omega))⟩
            obtain ⟨b1, hc1⟩ : ∃ b0 : Int, wr.cell? ⟨w.heap.size, ((j + 1) * 256 + k) * 2 + 1, none⟩ = some (.int .i64 b0) := ⟨_, (hown.cellAt (((j + 1) * 256 + k) * 2 + 1) (by omega)).trans (ivs_at (els (fillK (tabN j) j k)) (((j + 1) * 256 + k) * 2 + 1) (by omega))⟩
            have hz := hown.frozenAt (((j + 1) * 256 + k) * 2)
            have hz1 := hown.frozenAt (((j + 1) * 256 + k) * 2 + 1)
            have s1 := hown.stored (((j + 1) * 256 + k) * 2) (.int .i64 1)
            have s2 := s1.1.stored (((j + 1) * 256 + k) * 2 + 1) (.int .i64 j)
            have s21 := s2.1
            rw [ivs_set, ivs_set, els_set] at s21
            have hstep : fillK (tabN j) j (k + 1) = (fillK (tabN j) j k).set ((j + 1) * 256 + k) (1, (j : Int)) := by
              have hs := HS.out
              rw [fillK, ← hs]
              rfl
            rw [← hstep] at s21
            have HO2 := Lib.hid s21; clear s1 s2 s21 hstep
            have HBL := Lib.hid hbel; clear hbel
            clear hel hfl htl hown
            go_wp2_with fail
            refine (HU.out _).mono ?_
            rintro e w' ⟨rfl, rfl⟩
            go_wp2
            go_roundw
            case rel => exact ⟨k + 1, by omega, by go_num, HO2.out, (HBL.out.setCell (Nat.le_refl _) _).setCell (Nat.le_refl _) _⟩
            case measure => simp [intOf]; omega
          · obtain rfl : k = 256 := by omega
            have HO2 := Lib.hid hown; clear hown
            have HBL := Lib.hid hbel; clear hbel
            go_wp2
            go_roundw
            case rel =>
              refine ⟨j + 1, by omega, by go_num, ?_, HBL.out⟩
              have hs := HS.out
              rw [tabN, ← hs]
              exact HO2.out
            case measure => simp [intOf]; omega
      · simp only [show 9 - 3 = 6 from rfl, show (2 : Nat) ^ 6 = 64 from rfl] at f3
        clear f1 f2 f4
        go_wp2_with fail
        refine (HU.out _).mono ?_
        rintro e w' ⟨rfl, rfl⟩
        go_wp2_with fail
        refine (HU.out _).mono ?_
        rintro e w' ⟨rfl, rfl⟩
        go_wp2_with fail
        go_loopw [5] (fun i wr => ∃ (k : Nat), k ≤ 64 ∧ i = .int .i64 k ∧ wr.ownsRow w.heap.size 45 2 (.slice (some ⟨w.heap.size, 0, none⟩) 512 512) 512 (ivs (els (fillK (tabN j) j k))) ∧ Below w.heap.size w wr)
          (fun i _ => 64 - (intOf i).toNat)
        case atStart => exact ⟨0, Nat.zero_le _, rfl, HO.out, HBL.out⟩
        case round =>
          obtain ⟨k, hk, rfl, hown, hbel⟩ := hrel
          by_cases hlk : k < 64
          · have hel := els_len (fillK (tabN j) j k)
            have hfl := fillK_len (tabN j) j k
            have htl := tabN_len j
            obtain ⟨b0, hc⟩ : ∃ b0 : Int, wr.cell? ⟨w.heap.size, ((j + 1) * 64 + k) * 2, none⟩ = some (.int .i64 b0) := ⟨_, (hown.cellAt (((j + 1) * 64 + k) * 2) (by omega)).trans (ivs_at (els (fillK (tabN j) j k)) (((j + 1) * 64 + k) * 2) (by omega))⟩
            obtain ⟨b1, hc1⟩ : ∃ b0 : Int, wr.cell? ⟨w.heap.size, ((j + 1) * 64 + k) * 2 + 1, none⟩ = some (.int .i64 b0) := ⟨_, (hown.cellAt (((j + 1) * 64 + k) * 2 + 1) (by omega)).trans (ivs_at (els (fillK (tabN j) j k)) (((j + 1) * 64 + k) * 2 + 1) (by omega))⟩
            have hz := hown.frozenAt (((j + 1) * 64 + k) * 2)
            have hz1 := hown.frozenAt (((j + 1) * 64 + k) * 2 + 1)
            have s1 := hown.stored (((j + 1) * 64 + k) * 2) (.int .i64 3)
            have s2 := s1.1.stored (((j + 1) * 64 + k) * 2 + 1) (.int .i64 j)
            have s21 := s2.1
            rw [ivs_set, ivs_set, els_set] at s21
            have hstep : fillK (tabN j) j (k + 1) = (fillK (tabN j) j k).set ((j + 1) * 64 + k) (3, (j : Int)) := by
              have hs := HS.out
              rw [fillK, ← hs]
              rfl
            rw [← hstep] at s21
            have HO2 := Lib.hid s21; clear s1 s2 s21 hstep
            have HBL := Lib.hid hbel; clear hbel
            clear hel hfl htl hown
            go_wp2_with fail
            refine (HU.out _).mono ?_
            rintro e w' ⟨rfl, rfl⟩
            go_wp2
            go_roundw
            case rel => exact ⟨k + 1, by omega, by go_num, HO2.out, (HBL.out.setCell (Nat.le_refl _) _).setCell (Nat.le_refl _) _⟩
            case measure => simp [intOf]; omega
          · obtain rfl : k = 64 := by omega
            have HO2 := Lib.hid hown; clear hown
            have HBL := Lib.hid hbel; clear hbel
            go_wp2
            go_roundw
            case rel =>
              refine ⟨j + 1, by omega, by go_num, ?_, HBL.out⟩
              have hs := HS.out
              rw [tabN, ← hs]
              exact HO2.out
            case measure => simp [intOf]; omega
      · simp only [show 9 - 5 = 4 from rfl, show (2 : Nat) ^ 4 = 16 from rfl] at f3
        clear f1 f2 f4
        go_wp2_with fail
        refine (HU.out _).mono ?_
        rintro e w' ⟨rfl, rfl⟩
        go_wp2_with fail
        refine (HU.out _).mono ?_
        rintro e w' ⟨rfl, rfl⟩
        go_wp2_with fail
        go_loopw [5] (fun i wr => ∃ (k : Nat), k ≤ 16 ∧ i = .int .i64 k ∧ wr.ownsRow w.heap.size 45 2 (.slice (some ⟨w.heap.size, 0, none⟩) 512 512) 512 (ivs (els (fillK (tabN j) j k))) ∧ Below w.heap.size w wr)
          (fun i _ => 16 - (intOf i).toNat)
        case atStart => exact ⟨0, Nat.zero_le _, rfl, HO.out, HBL.out⟩
        case round =>
          obtain ⟨k, hk, rfl, hown, hbel⟩ := hrel
          by_cases hlk : k < 16
          · have hel := els_len (fillK (tabN j) j k)
            have hfl := fillK_len (tabN j) j k
            have htl := tabN_len j
            obtain ⟨b0, hc⟩ : ∃ b0 : Int, wr.cell? ⟨w.heap.size, ((j + 1) * 16 + k) * 2, none⟩ = some (.int .i64 b0) := ⟨_, (hown.cellAt (((j + 1) * 16 + k) * 2) (by omega)).trans (ivs_at (els (fillK (tabN j) j k)) (((j + 1) * 16 + k) * 2) (by omega))⟩
            obtain ⟨b1, hc1⟩ : ∃ b0 : Int, wr.cell? ⟨w.heap.size, ((j + 1) * 16 + k) * 2 + 1, none⟩ = some (.int .i64 b0) := ⟨_, (hown.cellAt (((j + 1) * 16 + k) * 2 + 1) (by omega)).trans (ivs_at (els (fillK (tabN j) j k)) (((j + 1) * 16 + k) * 2 + 1) (by omega))⟩
            have hz := hown.frozenAt (((j + 1) * 16 + k) * 2)
            have hz1 := hown.frozenAt (((j + 1) * 16 + k) * 2 + 1)
            have s1 := hown.stored (((j + 1) * 16 + k) * 2) (.int .i64 5)
            have s2 := s1.1.stored (((j + 1) * 16 + k) * 2 + 1) (.int .i64 j)
            have s21 := s2.1
            rw [ivs_set, ivs_set, els_set] at s21
            have hstep : fillK (tabN j) j (k + 1) = (fillK (tabN j) j k).set ((j + 1) * 16 + k) (5, (j : Int)) := by
              have hs := HS.out
              rw [fillK, ← hs]
              rfl
            rw [← hstep] at s21
            have HO2 := Lib.hid s21; clear s1 s2 s21 hstep
            have HBL := Lib.hid hbel; clear hbel
            clear hel hfl htl hown
            go_wp2_with fail
            refine (HU.out _).mono ?_
            rintro e w' ⟨rfl, rfl⟩
            go_wp2
            go_roundw
            case rel => exact ⟨k + 1, by omega, by go_num, HO2.out, (HBL.out.setCell (Nat.le_refl _) _).setCell (Nat.le_refl _) _⟩
            case measure => simp [intOf]; omega
          · obtain rfl : k = 16 := by omega
            have HO2 := Lib.hid hown; clear hown
            have HBL := Lib.hid hbel; clear hbel
            go_wp2
            go_roundw
            case rel =>
              refine ⟨j + 1, by omega, by go_num, ?_, HBL.out⟩
              have hs := HS.out
              rw [tabN, ← hs]
              exact HO2.out
            case measure => simp [intOf]; omega
      · simp only [show 9 - 7 = 2 from rfl, show (2 : Nat) ^ 2 = 4 from rfl] at f3
        clear f1 f2 f4
        go_wp2_with fail
        refine (HU.out _).mono ?_
        rintro e w' ⟨rfl, rfl⟩
        go_wp2_with fail
        refine (HU.out _).mono ?_
        rintro e w' ⟨rfl, rfl⟩
        go_wp2_with fail
        go_loopw [5] (fun i wr => ∃ (k : Nat), k ≤ 4 ∧ i = .int .i64 k ∧ wr.ownsRow w.heap.size 45 2 (.slice (some ⟨w.heap.size, 0, none⟩) 512 512) 512 (ivs (els (fillK (tabN j) j k))) ∧ Below w.heap.size w wr)
          (fun i _ => 4 - (intOf i).toNat)
        case atStart => exact ⟨0, Nat.zero_le _, rfl, HO.out, HBL.out⟩
        case round =>
          obtain ⟨k, hk, rfl, hown, hbel⟩ := hrel
          by_cases hlk : k < 4
          · have hel := els_len (fillK (tabN j) j k)
            have hfl := fillK_len (tabN j) j k
            have htl := tabN_len j
            obtain ⟨b0, hc⟩ : ∃ b0 : Int, wr.cell? ⟨w.heap.size, ((j + 1) * 4 + k) * 2, none⟩ = some (.int .i64 b0) := ⟨_, (hown.cellAt (((j + 1) * 4 + k) * 2) (by omega)).trans (ivs_at (els (fillK (tabN j) j k)) (((j + 1) * 4 + k) * 2) (by omega))⟩
            obtain ⟨b1, hc1⟩ : ∃ b0 : Int, wr.cell? ⟨w.heap.size, ((j + 1) * 4 + k) * 2 + 1, none⟩ = some (.int .i64 b0) := ⟨_, (hown.cellAt (((j + 1) * 4 + k) * 2 + 1) (by omega)).trans (ivs_at (els (fillK (tabN j) j k)) (((j + 1) * 4 + k) * 2 + 1) (by omega))⟩
            have hz := hown.frozenAt (((j + 1) * 4 + k) * 2)
            have hz1 := hown.frozenAt (((j + 1) * 4 + k) * 2 + 1)
            have s1 := hown.stored (((j + 1) * 4 + k) * 2) (.int .i64 7)
            have s2 := s1.1.stored (((j + 1) * 4 + k) * 2 + 1) (.int .i64 j)
            have s21 := s2.1
            rw [ivs_set, ivs_set, els_set] at s21
            have hstep : fillK (tabN j) j (k + 1) = (fillK (tabN j) j k).set ((j + 1) * 4 + k) (7, (j : Int)) := by
              have hs := HS.out
              rw [fillK, ← hs]
              rfl
            rw [← hstep] at s21
            have HO2 := Lib.hid s21; clear s1 s2 s21 hstep
            have HBL := Lib.hid hbel; clear hbel
            clear hel hfl htl hown
            go_wp2_with fail
            refine (HU.out _).mono ?_
            rintro e w' ⟨rfl, rfl⟩
            go_wp2
            go_roundw
            case rel => exact ⟨k + 1, by omega, by go_num, HO2.out, (HBL.out.setCell (Nat.le_refl _) _).setCell (Nat.le_refl _) _⟩
            case measure => simp [intOf]; omega
          · obtain rfl : k = 4 := by omega
            have HO2 := Lib.hid hown; clear hown
            have HBL := Lib.hid hbel; clear hbel
            go_wp2
            go_roundw
            case rel =>
              refine ⟨j + 1, by omega, by go_num, ?_, HBL.out⟩
              have hs := HS.out
              rw [tabN, ← hs]
              exact HO2.out
            case measure => simp [intOf]; omega
      · simp only [show 9 - 9 = 0 from rfl, show (2 : Nat) ^ 0 = 1 from rfl] at f3
        clear f1 f2 f4
        go_wp2_with fail
        refine (HU.out _).mono ?_
        rintro e w' ⟨rfl, rfl⟩
        go_wp2_with fail
        refine (HU.out _).mono ?_
        rintro e w' ⟨rfl, rfl⟩
        go_wp2_with fail
        go_loopw [5] (fun i wr => ∃ (k : Nat), k ≤ 1 ∧ i = .int .i64 k ∧ wr.ownsRow w.heap.size 45 2 (.slice (some ⟨w.heap.size, 0, none⟩) 512 512) 512 (ivs (els (fillK (tabN j) j k))) ∧ Below w.heap.size w wr)
          (fun i _ => 1 - (intOf i).toNat)
        case atStart => exact ⟨0, Nat.zero_le _, rfl, HO.out, HBL.out⟩
        case round =>
          obtain ⟨k, hk, rfl, hown, hbel⟩ := hrel
          by_cases hlk : k < 1
          · have hel := els_len (fillK (tabN j) j k)
            have hfl := fillK_len (tabN j) j k
            have htl := tabN_len j
            obtain ⟨b0, hc⟩ : ∃ b0 : Int, wr.cell? ⟨w.heap.size, (j + 1 + k) * 2, none⟩ = some (.int .i64 b0) := ⟨_, (hown.cellAt ((j + 1 + k) * 2) (by omega)).trans (ivs_at (els (fillK (tabN j) j k)) ((j + 1 + k) * 2) (by omega))⟩
            obtain ⟨b1, hc1⟩ : ∃ b0 : Int, wr.cell? ⟨w.heap.size, (j + 1 + k) * 2 + 1, none⟩ = some (.int .i64 b0) := ⟨_, (hown.cellAt ((j + 1 + k) * 2 + 1) (by omega)).trans (ivs_at (els (fillK (tabN j) j k)) ((j + 1 + k) * 2 + 1) (by omega))⟩
            have hz := hown.frozenAt ((j + 1 + k) * 2)
            have hz1 := hown.frozenAt ((j + 1 + k) * 2 + 1)
            have s1 := hown.stored ((j + 1 + k) * 2) (.int .i64 9)
            have s2 := s1.1.stored ((j + 1 + k) * 2 + 1) (.int .i64 j)
            have s21 := s2.1
            rw [ivs_set, ivs_set, els_set] at s21
            have hstep : fillK (tabN j) j (k + 1) = (fillK (tabN j) j k).set (j + 1 + k) (9, (j : Int)) := by
              have hs := HS.out
              rw [fillK, ← hs, show 9 - 9 = 0 from rfl, Nat.pow_zero, Nat.mul_one]
              rfl
            rw [← hstep] at s21
            have HO2 := Lib.hid s21; clear s1 s2 s21 hstep
            have HBL := Lib.hid hbel; clear hbel
            clear hel hfl htl hown
            go_wp2_with fail
            refine (HU.out _).mono ?_
            rintro e w' ⟨rfl, rfl⟩
            go_wp2
            go_roundw
            case rel => exact ⟨k + 1, by omega, by go_num, HO2.out, (HBL.out.setCell (Nat.le_refl _) _).setCell (Nat.le_refl _) _⟩
            case measure => simp [intOf]; omega
          · obtain rfl : k = 1 := by omega
            have HO2 := Lib.hid hown; clear hown
            have HBL := Lib.hid hbel; clear hbel
            go_wp2
            go_roundw
            case rel =>
              refine ⟨j + 1, by omega, by go_num, ?_, HBL.out⟩
              have hs := HS.out
              rw [tabN, ← hs]
              exact HO2.out
            case measure => simp [intOf]; omega
    · obtain rfl : j = 31 := by omega
      rw [ueSz_31] at HU
      rw [tabN_end] at hown
      go_wp2_with fail
      refine (HU.out _).mono ?_
      rintro e w' ⟨rfl, rfl⟩
      go_wp2
      go_ret
      exact ⟨_, _, rfl, hown, hbel⟩
end Go.Proofs.Ytgacldhpohnpaaa

namespace Go.Proofs.Ytgacldhpohnpaaa
open Go.RowKit
set_option linter.unusedVariables false

set_option maxRecDepth 100000 in
set_option maxHeartbeats 1000000 in
/-- slices.Equal over entries. -/
theorem equal_ents (A B : Option Addr) (ca cb : Nat) (la lb : EntL) (w : World) (hA : Ents w w.heap.size A la) (hB : Ents w w.heap.size B lb) :
    Calls Try.prog 71 #[.slice A la.length ca, .slice B lb.length cb] w fun e w' => e = .returned (.bool (decide (la = lb))) ∧ Below w.heap.size w w' := by
  by_cases hne : la.length = lb.length
  · obtain ⟨n, hn⟩ : ∃ n, n = la.length := ⟨_, rfl⟩
    have hn2 : lb.length = n := by omega
    have hnm := hA.1
    rw [← hn] at hnm
    rw [hn2, ← hn]
    have HN := Lib.hid hn; clear hn hne
    have HN2 := Lib.hid hn2; clear hn2
    have HA := Lib.hid hA; clear hA
    have HB := Lib.hid hB; clear hB
    go_enter Try.func71, Try.ntmps71
    go_wp2
    go_loopw [13] (fun i wr => ∃ j : Nat, j ≤ n ∧ (∀ t, t < j → entAt la t = entAt lb t) ∧ i = .int .i64 j ∧ Below w.heap.size w wr)
      (fun i _ => n - (intOf i).toNat)
    case atStart => exact ⟨0, Nat.zero_le _, fun t ht => absurd ht (by omega), rfl, Below.refl _ _⟩
    case round =>
      obtain ⟨j, hj, hpre, rfl, hbel⟩ := hrel
      have HE := Lib.hid hpre; clear hpre
      by_cases hlt : j < n
      · obtain ⟨ba, oa, rfl, ha1, ha2⟩ := HA.out.at j (by rw [← HN.out]; exact hlt)
        obtain ⟨bb, ob, rfl, hb1, hb2⟩ := HB.out.at j (by rw [HN2.out]; exact hlt)
        obtain ⟨c1, c2⟩ := ha2 j (by rw [← HN.out]; exact hlt)
        obtain ⟨c3, c4⟩ := hb2 j (by rw [HN2.out]; exact hlt)
        rw [← hbel.cell (p := ⟨ba, oa + j * 2, none⟩) ha1] at c1
        rw [← hbel.cell (p := ⟨ba, oa + j * 2 + 1, none⟩) ha1] at c2
        rw [← hbel.cell (p := ⟨bb, ob + j * 2, none⟩) hb1] at c3
        rw [← hbel.cell (p := ⟨bb, ob + j * 2 + 1, none⟩) hb1] at c4
        clear ha2 hb2
        obtain ⟨x, hx⟩ : ∃ x, x = entAt la j := ⟨_, rfl⟩
        obtain ⟨y, hy⟩ : ∃ y, y = entAt lb j := ⟨_, rfl⟩
        rw [← hx] at c1 c2
        rw [← hy] at c3 c4
        obtain ⟨x1, x2⟩ := x
        obtain ⟨y1, y2⟩ := y
        have HX := Lib.hid hx; clear hx
        have HY := Lib.hid hy; clear hy
        by_cases hxy : x1 = y1 ∧ x2 = y2
        · obtain ⟨rfl, rfl⟩ := hxy
          go_wp2
          go_region
          go_wp2
          go_roundw
          case rel =>
            refine ⟨j + 1, by omega, fun t ht => ?_, by go_num, hbel.drew⟩
            by_cases htj : t = j
            · subst htj; rw [← HX.out, ← HY.out]
            · exact HE.out t (by omega)
          case measure => simp [intOf]; omega
        · have HNE := Lib.hid hxy
          by_cases h1 : x1 = y1
          · subst h1
            have h2 : ¬ x2 = y2 := fun e => hxy ⟨rfl, e⟩
            have HNX := Lib.hid h2
            clear hxy
            go_wp2
            go_region
            go_wp2
            go_ret
            refine ⟨?_, hbel.drew⟩
            rw [decide_eq_false (fun e => HNX.out (Prod.mk.inj (HX.out.trans ((congrArg (fun l => entAt l j) e).trans HY.out.symm))).2)]
            rfl
          · clear hxy
            go_wp2
            go_region
            go_wp2
            go_ret
            refine ⟨?_, hbel.drew⟩
            rw [decide_eq_false (fun e => HNE.out (Prod.mk.inj (HX.out.trans ((congrArg (fun l => entAt l j) e).trans HY.out.symm))))]
            rfl
      · obtain rfl : j = n := by omega
        go_wp2
        go_ret
        refine ⟨?_, hbel⟩
        have e : la = lb := ents_ext _ _ (by rw [HN2.out, ← HN.out]) fun t h1 => HE.out t (by have := HN.out; omega)
        rw [decide_eq_true e]
        rfl
  · have hq : ((la.length : Int) != (lb.length : Int)) = true := by rw [bne_iff_ne]; omega
    have HNE := Lib.hid hne; clear hne
    go_enter Try.func71, Try.ntmps71
    go_wp2
    go_ret
    refine ⟨?_, Below.refl _ _⟩
    rw [decide_eq_false (fun e => HNE.out (by rw [e]))]
    rfl

set_option maxRecDepth 100000 in
set_option maxHeartbeats 1000000 in
theorem impl_tableok_any (A : Option Addr) (ca : Nat) (la : EntL) (w : World) (hA : Ents w w.heap.size A la) :
    Calls Try.prog 17 #[.slice A la.length ca] w fun e w' => e = .returned (.bool (decide (la = ueT))) ∧ Below w.heap.size w w' := by
  have HU := Lib.hid impl_uetable_any
  have HA := Lib.hid hA; clear hA
  go_enter Try.func17, Try.ntmps17
  go_wp2_with fail
  refine (HU.out _).mono ?_
  rintro e w1 ⟨A', cap', rfl, ho, hb⟩
  have hb0 := hb
  have hu := ho.ents (by rw [ueT_len]; decide)
  have HQ := Lib.hid (equal_ents A A' ca cap' la ueT w1 ((HA.out.below hb (Nat.le_refl _)).mono hb.size) hu)
  have HB := Lib.hid hb; clear hb hb0 ho hu
  go_wp2_with fail
  refine HQ.out.mono ?_
  rintro e w2 ⟨rfl, hb2⟩
  have HB2 := Lib.hid (below_up HB.out hb2 HB.out.size); clear hb2
  go_wp2
  go_ret
  exact ⟨rfl, HB2.out⟩

set_option maxRecDepth 100000 in
set_option maxHeartbeats 1000000 in
theorem spec_tableok_any (A : Option Addr) (ca : Nat) (la : EntL) (w : World) (hA : Ents w w.heap.size A la) :
    Calls Try.prog 18 #[.slice A la.length ca] w fun e w' => e = .returned (.bool (decide (la = ueT))) ∧ Below w.heap.size w w' := by
  have HU := Lib.hid spec_uetable_any
  obtain ⟨n, hn⟩ : ∃ n, n = la.length := ⟨_, rfl⟩
  have hnm := hA.1
  rw [← hn] at hnm ⊢
  have HN := Lib.hid hn; clear hn
  have HA := Lib.hid hA; clear hA
  obtain ⟨u, hu⟩ : ∃ u, u = ueT := ⟨_, rfl⟩
  have hul : u.length = 512 := by rw [hu, ueT_len]
  rw [← hu] at HU ⊢
  clear hu
  have HUL := Lib.hid hul; clear hul
  go_enter Try.func18, Try.ntmps18
  go_wp2_with fail
  refine (HU.out _).mono ?_
  rintro e w1 ⟨A', cap', rfl, ho, hb⟩
  rw [HUL.out]
  have HB := Lib.hid (ho.ents (by rw [HUL.out]; decide)); clear ho
  have HA1 := Lib.hid ((HA.out.below hb (Nat.le_refl _)).mono hb.size)
  have HW := Lib.hid hb; clear hb
  go_wp2
  go_loopw [4] (fun i wr => ∃ j : Nat, j ≤ n ∧ j ≤ 512 ∧ (∀ t, t < j → entAt la t = entAt u t) ∧ i = .int .i64 j ∧ Below w1.heap.size w1 wr)
    (fun i _ => 512 - (intOf i).toNat)
  case atStart => exact ⟨0, Nat.zero_le _, Nat.zero_le _, fun t ht => absurd ht (by omega), rfl, Below.refl _ _⟩
  case round =>
    obtain ⟨j, hj, hj2, hpre, rfl, hbel⟩ := hrel
    have HE := Lib.hid hpre; clear hpre
    by_cases hlt : j < n
    · by_cases hlt2 : j < 512
      · obtain ⟨ba, oa, rfl, ha1, ha2⟩ := HA1.out.at j (by rw [← HN.out]; exact hlt)
        obtain ⟨bb, ob, rfl, hb1, hb2⟩ := HB.out.at j (by rw [HUL.out]; exact hlt2)
        obtain ⟨c1, c2⟩ := ha2 j (by rw [← HN.out]; exact hlt)
        obtain ⟨c3, c4⟩ := hb2 j (by rw [HUL.out]; exact hlt2)
        rw [← hbel.cell (p := ⟨ba, oa + j * 2, none⟩) ha1] at c1
        rw [← hbel.cell (p := ⟨ba, oa + j * 2 + 1, none⟩) ha1] at c2
        rw [← hbel.cell (p := ⟨bb, ob + j * 2, none⟩) hb1] at c3
        rw [← hbel.cell (p := ⟨bb, ob + j * 2 + 1, none⟩) hb1] at c4
        clear ha2 hb2
        obtain ⟨x, hx⟩ : ∃ x, x = entAt la j := ⟨_, rfl⟩
        obtain ⟨y, hy⟩ : ∃ y, y = entAt u j := ⟨_, rfl⟩
        rw [← hx] at c1 c2
        rw [← hy] at c3 c4
        obtain ⟨x1, x2⟩ := x
        obtain ⟨y1, y2⟩ := y
        have HX := Lib.hid hx; clear hx
        have HY := Lib.hid hy; clear hy
        by_cases hxy : x1 = y1 ∧ x2 = y2
        · obtain ⟨rfl, rfl⟩ := hxy
          go_wp2
          go_region
          go_wp2
          go_roundw
          case rel =>
            refine ⟨j + 1, by omega, by omega, fun t ht => ?_, by go_num, hbel.drew⟩
            by_cases htj : t = j
            · subst htj; rw [← HX.out, ← HY.out]
            · exact HE.out t (by omega)
          case measure => simp [intOf]; omega
        · have HNE := Lib.hid hxy
          by_cases h1 : x1 = y1
          · subst h1
            have h2 : ¬ x2 = y2 := fun e => hxy ⟨rfl, e⟩
            have HNX := Lib.hid h2
            clear hxy
            go_wp2
            go_region
            go_wp2
            go_ret
            refine ⟨?_, below_up HW.out hbel.drew HW.out.size⟩
            rw [decide_eq_false (fun e => HNX.out (Prod.mk.inj (HX.out.trans ((congrArg (fun l => entAt l j) e).trans HY.out.symm))).2)]
            rfl
          · clear hxy
            go_wp2
            go_region
            go_wp2
            go_ret
            refine ⟨?_, below_up HW.out hbel.drew HW.out.size⟩
            rw [decide_eq_false (fun e => HNE.out (Prod.mk.inj (HX.out.trans ((congrArg (fun l => entAt l j) e).trans HY.out.symm))))]
            rfl
      · obtain rfl : j = 512 := by omega
        have hq : ((n : Int) == 512) = false := by rw [beq_eq_false_iff_ne]; omega
        have HW2 := Lib.hid (below_up HW.out hbel HW.out.size); clear hbel
        have HLT := Lib.hid hlt
        go_wp2
        go_ret
        refine ⟨?_, HW2.out⟩
        rw [decide_eq_false (fun e => by have h1 := HUL.out; have h2 := HN.out; have h3 := HLT.out; rw [← e] at h1; omega)]
        rfl
    · obtain rfl : j = n := by omega
      have HW2 := Lib.hid (below_up HW.out hbel HW.out.size); clear hbel
      by_cases h5 : j = 512
      · subst h5
        go_wp2
        go_ret
        refine ⟨?_, HW2.out⟩
        rw [decide_eq_true (ents_ext _ _ (by rw [← HN.out, HUL.out]) fun t h1 => HE.out t (by have := HN.out; omega))]
        rfl
      · have hq : ((j : Int) == 512) = false := by rw [beq_eq_false_iff_ne]; omega
        have H5 := Lib.hid h5; clear h5
        go_wp2
        go_ret
        refine ⟨?_, HW2.out⟩
        rw [decide_eq_false (fun e => by have h1 := HUL.out; have h2 := HN.out; have h3 := H5.out; rw [← e] at h1; omega)]
        rfl
end Go.Proofs.Ytgacldhpohnpaaa
