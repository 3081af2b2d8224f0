/-
  Contracts of UeTable and TableOk, in both texts. No condition but those that each lemma states.
-/
import Derived.Test.YthiplncceglnhaaEnts2
import Derived.Test.YthiplncceglnhaaUeBits
namespace Go.Proofs.Ythiplncceglnhaa
open Go.RowKit
set_option linter.unusedVariables false

theorem bitLen_at (v k : Nat) (h1 : 2 ^ k ≤ v) (h2 : v < 2 ^ (k + 1)) (hv : v ≤ 65535) : Lib.bitLen v = k + 1 := by
  have h0 : v ≠ 0 := by have := Nat.two_pow_pos k; omega
  obtain ⟨a, b, c⟩ := Lib.bitLenAux_bounds 64 v (by omega) h0
  unfold Lib.bitLen
  generalize Lib.bitLenAux 64 v = L at a b c ⊢
  rcases Nat.lt_trichotomy L (k + 1) with h | h | h
  · have := Nat.pow_le_pow_right (n := 2) (by decide) (show L ≤ k by omega)
    omega
  · exact h
  · have := Nat.pow_le_pow_right (n := 2) (by decide) (show k + 1 ≤ L - 1 by omega)
    omega
/-- The entry of nine bits: the size of the code that begins them, and its number. -/
def ueE (v : Nat) : Int × Int :=
  if v < 16 then (0, 0) else if v < 32 then (9, (v : Int) - 1) else if v < 64 then (7, ((v / 4 : Nat) : Int) - 1) else if v < 128 then (5, ((v / 16 : Nat) : Int) - 1) else if v < 256 then (3, ((v / 64 : Nat) : Int) - 1) else (1, ((v / 256 : Nat) : Int) - 1)
/-- The table. -/
def ueT : EntL := (List.range 512).map ueE
theorem ueT_len : ueT.length = 512 := by simp [ueT]
theorem ueT_at (v : Nat) (h : v < 512) : entAt ueT v = ueE v := by
  unfold entAt
  rw [List.getD_eq_getElem?_getD]
  simp [ueT, h]

/-- The entry as a value. -/
def ev (p : Int × Int) : Value := .agg #[.int .i64 p.1, .int .i64 p.2]

set_option maxRecDepth 100000 in
set_option maxHeartbeats 1000000 in
theorem entryof_9 (v : Nat) (h1 : 16 ≤ v) (h2 : v < 32) (w : World) :
    Calls Try.prog 41 #[.int .i64 9, .int .i64 v] w fun e w' => e = .returned (.agg #[.int .i64 9, .int .i64 ((v : Int) - 1)]) ∧ Below w.heap.size w w' := by
  have HL := Lib.hid (len_any v (by omega))
  rw [bitLen_at v 4 (by omega) (by omega) (by omega)] at HL
  go_enter Try.func41, Try.ntmps41
  go_wp2_with fail
  refine (HL.out _).mono ?_
  rintro e w' ⟨rfl, rfl⟩
  go_wp2
  exact bodyPost_ret (v := .agg #[.int .i64 9, .int .i64 ((v : Int) - 1)]) (by simp [results, Try.results41, go_sem]) rfl ⟨rfl, (Below.refl _ _).alloc (Nat.le_refl _) _⟩
set_option maxRecDepth 100000 in
set_option maxHeartbeats 1000000 in
theorem entryof_7 (v : Nat) (h1 : 32 ≤ v) (h2 : v < 64) (w : World) :
    Calls Try.prog 41 #[.int .i64 9, .int .i64 v] w fun e w' => e = .returned (.agg #[.int .i64 7, .int .i64 (((v / 4 : Nat) : Int) - 1)]) ∧ Below w.heap.size w w' := by
  have HL := Lib.hid (len_any v (by omega))
  rw [bitLen_at v 5 (by omega) (by omega) (by omega)] at HL
  go_enter Try.func41, Try.ntmps41
  go_wp2_with fail
  refine (HL.out _).mono ?_
  rintro e w' ⟨rfl, rfl⟩
  go_wp2
  exact bodyPost_ret (v := .agg #[.int .i64 7, .int .i64 (((v / 4 : Nat) : Int) - 1)]) (by simp [results, Try.results41, go_sem]) rfl ⟨rfl, (Below.refl _ _).alloc (Nat.le_refl _) _⟩
set_option maxRecDepth 100000 in
set_option maxHeartbeats 1000000 in
theorem entryof_5 (v : Nat) (h1 : 64 ≤ v) (h2 : v < 128) (w : World) :
    Calls Try.prog 41 #[.int .i64 9, .int .i64 v] w fun e w' => e = .returned (.agg #[.int .i64 5, .int .i64 (((v / 16 : Nat) : Int) - 1)]) ∧ Below w.heap.size w w' := by
  have HL := Lib.hid (len_any v (by omega))
  rw [bitLen_at v 6 (by omega) (by omega) (by omega)] at HL
  go_enter Try.func41, Try.ntmps41
  go_wp2_with fail
  refine (HL.out _).mono ?_
  rintro e w' ⟨rfl, rfl⟩
  go_wp2
  exact bodyPost_ret (v := .agg #[.int .i64 5, .int .i64 (((v / 16 : Nat) : Int) - 1)]) (by simp [results, Try.results41, go_sem]) rfl ⟨rfl, (Below.refl _ _).alloc (Nat.le_refl _) _⟩
set_option maxRecDepth 100000 in
set_option maxHeartbeats 1000000 in
theorem entryof_3 (v : Nat) (h1 : 128 ≤ v) (h2 : v < 256) (w : World) :
    Calls Try.prog 41 #[.int .i64 9, .int .i64 v] w fun e w' => e = .returned (.agg #[.int .i64 3, .int .i64 (((v / 64 : Nat) : Int) - 1)]) ∧ Below w.heap.size w w' := by
  have HL := Lib.hid (len_any v (by omega))
  rw [bitLen_at v 7 (by omega) (by omega) (by omega)] at HL
  go_enter Try.func41, Try.ntmps41
  go_wp2_with fail
  refine (HL.out _).mono ?_
  rintro e w' ⟨rfl, rfl⟩
  go_wp2
  exact bodyPost_ret (v := .agg #[.int .i64 3, .int .i64 (((v / 64 : Nat) : Int) - 1)]) (by simp [results, Try.results41, go_sem]) rfl ⟨rfl, (Below.refl _ _).alloc (Nat.le_refl _) _⟩
set_option maxRecDepth 100000 in
set_option maxHeartbeats 1000000 in
theorem entryof_1 (v : Nat) (h1 : 256 ≤ v) (h2 : v < 512) (w : World) :
    Calls Try.prog 41 #[.int .i64 9, .int .i64 v] w fun e w' => e = .returned (.agg #[.int .i64 1, .int .i64 (((v / 256 : Nat) : Int) - 1)]) ∧ Below w.heap.size w w' := by
  have HL := Lib.hid (len_any v (by omega))
  rw [bitLen_at v 8 (by omega) (by omega) (by omega)] at HL
  go_enter Try.func41, Try.ntmps41
  go_wp2_with fail
  refine (HL.out _).mono ?_
  rintro e w' ⟨rfl, rfl⟩
  go_wp2
  exact bodyPost_ret (v := .agg #[.int .i64 1, .int .i64 (((v / 256 : Nat) : Int) - 1)]) (by simp [results, Try.results41, go_sem]) rfl ⟨rfl, (Below.refl _ _).alloc (Nat.le_refl _) _⟩
set_option maxRecDepth 100000 in
set_option maxHeartbeats 1000000 in
theorem entryof_0 (v : Nat) (h2 : v < 16) (w : World) :
    Calls Try.prog 41 #[.int .i64 9, .int .i64 v] w fun e w' => e = .returned (.agg #[.int .i64 0, .int .i64 0]) ∧ Below w.heap.size w w' := by
  have HL := Lib.hid (len_any v (by omega))
  have hL := Lib.bitLen_le v 4 (by decide) (by omega)
  obtain ⟨L, hLd⟩ : ∃ L, L = Lib.bitLen v := ⟨_, rfl⟩
  rw [← hLd] at HL hL
  clear hLd
  go_enter Try.func41, Try.ntmps41
  go_wp2_with fail
  refine (HL.out _).mono ?_
  rintro e w' ⟨rfl, rfl⟩
  go_wp2
  exact bodyPost_ret (v := .agg #[.int .i64 0, .int .i64 0]) (by simp [results, Try.results41, go_sem]) rfl ⟨rfl, (Below.refl _ _).alloc (Nat.le_refl _) _⟩
theorem entryof_any (v : Nat) (hv : v < 512) (w : World) :
    Calls Try.prog 41 #[.int .i64 9, .int .i64 v] w fun e w' => e = .returned (ev (ueE v)) ∧ Below w.heap.size w w' := by
  unfold ev ueE
  by_cases h1 : v < 16
  · rw [if_pos h1]; exact entryof_0 v h1 w
  rw [if_neg h1]
  by_cases h2 : v < 32
  · rw [if_pos h2]; exact entryof_9 v (by omega) h2 w
  rw [if_neg h2]
  by_cases h3 : v < 64
  · rw [if_pos h3]; exact entryof_7 v (by omega) h3 w
  rw [if_neg h3]
  by_cases h4 : v < 128
  · rw [if_pos h4]; exact entryof_5 v (by omega) h4 w
  rw [if_neg h4]
  by_cases h5 : v < 256
  · rw [if_pos h5]; exact entryof_3 v (by omega) h5 w
  rw [if_neg h5]
  exact entryof_1 v (by omega) hv w

set_option maxRecDepth 100000 in
set_option maxHeartbeats 1000000 in
theorem tableof_any (w : World) :
    Calls Try.prog 40 #[.int .i64 9, .func (.func 41) #[.int .i64 9] #[]] w fun e w' => ∃ A' cap', e = .returned (.slice A' ueT.length cap') ∧ OwnE w' w.heap.size A' cap' ueT ∧ Below w.heap.size w w' := by
  have hmk := make_ents 512 512 (by decide) (by decide)
  have hOI : ∀ w' A' cap', OwnE w' w.heap.size A' cap' ueT ↔ w'.ownsRow w.heap.size 63 2 (.slice A' 512 cap') 512 (ivs (els ueT)) := fun w' A' cap' => by unfold OwnE; rw [ueT_len]
  simp only [hOI, ueT_len]
  clear hOI
  obtain ⟨z, hz⟩ : ∃ z : EntL, z = List.replicate 512 (0, 0) := ⟨_, rfl⟩
  rw [← hz] at hmk
  have hzl : z.length = 512 := by rw [hz]; simp
  have HZ := Lib.hid hz; clear hz
  have HZL := Lib.hid hzl; clear hzl
  go_enter Try.func40, Try.ntmps40
  go_wp2
  clear hmk
  go_loopw [12] (fun i wr => ∃ (j : Nat) (p : EntL), j ≤ 512 ∧ p.length = 512 ∧ (∀ t, t < j → entAt p t = ueE t) ∧ i = .int .i64 j ∧ wr.ownsRow w.heap.size 63 2 (.slice (some ⟨w.heap.size, 0, none⟩) 512 512) 512 (ivs (els p)) ∧ Below w.heap.size w wr)
    (fun i _ => 512 - (intOf i).toNat)
  case atStart =>
    refine ⟨0, z, Nat.zero_le _, HZL.out, fun t ht => absurd ht (by omega), rfl, ?_, (Below.refl _ _).alloc (Nat.le_refl _) _⟩
    have := own_ents w w.heap.size z (Nat.le_refl _) (by rw [HZL.out]; simp [maxLen])
    unfold OwnE at this
    rw [HZL.out] at this
    simpa using this
  case round =>
    obtain ⟨j, p, hj, hp, hpre, rfl, hown, hbel⟩ := hrel
    have HE := Lib.hid hpre; clear hpre
    have HP := Lib.hid hp; clear hp
    by_cases hlt : j < 512
    · obtain ⟨x, hx⟩ : ∃ x, x = ueE j := ⟨_, rfl⟩
      have HC := Lib.hid (entryof_any j hlt)
      rw [← hx] at HC
      obtain ⟨x1, x2⟩ := x
      unfold ev at HC
      have HX := Lib.hid hx; clear hx
      have HO := Lib.hid hown; clear hown
      have HBL := Lib.hid hbel; clear hbel
      go_wp2_with fail
      refine (HC.out _).mono ?_
      rintro e w' ⟨rfl, hb'⟩
      have hown : w'.ownsRow w.heap.size 63 2 (.slice (some ⟨w.heap.size, 0, none⟩) 512 512) 512 (ivs (els p)) :=
        World.ownsRow.kept (row := none) HO.out ⟨hb'.os, hb'.tape, hb'.output, hb'.size, fun k hk _ => hb'.block k hk⟩ (by simp [Value.ownBlock])
      have hbel : Below w.heap.size w w' := below_up HBL.out hb' HBL.out.size
      clear hb'
      have hel := els_len p
      have hpl := HP.out
      obtain ⟨b0, hc⟩ : ∃ b0 : Int, w'.cell? ⟨w.heap.size, j * 2, none⟩ = some (.int .i64 b0) := ⟨_, (hown.cellAt (j * 2) (by omega)).trans (ivs_at (els p) (j * 2) (by omega))⟩
      obtain ⟨b1, hc1⟩ : ∃ b0 : Int, w'.cell? ⟨w.heap.size, j * 2 + 1, none⟩ = some (.int .i64 b0) := ⟨_, (hown.cellAt (j * 2 + 1) (by omega)).trans (ivs_at (els p) (j * 2 + 1) (by omega))⟩
      have hz := hown.frozenAt (j * 2)
      have hz1 := hown.frozenAt (j * 2 + 1)
      clear hel hpl
      go_wp2
      go_roundw
      case rel =>
        have s1 := hown.stored (j * 2) (.int .i64 x1)
        have s2 := s1.1.stored (j * 2 + 1) (.int .i64 x2)
        have s21 := s2.1
        rw [ivs_set, ivs_set, els_set] at s21
        refine ⟨j + 1, p.set j (x1, x2), by omega, by simpa using HP.out, ?_, by go_num, s21, (hbel.setCell (Nat.le_refl _) _).setCell (Nat.le_refl _) _⟩
        intro t ht
        by_cases htj : t = j
        · subst htj
          rw [entAt_set_same _ _ _ (by rw [HP.out]; omega)]
          exact HX.out
        · rw [entAt_set_other _ _ _ _ htj]
          exact HE.out t (by omega)
      case measure => simp [intOf]; omega
    · obtain rfl : j = 512 := by omega
      go_wp2
      go_ret
      have e : p = ueT := ents_ext _ _ (by rw [HP.out, ueT_len]) fun t h1 => by
        have hp := HP.out
        rw [HE.out t (by omega), ueT_at t (by omega)]
      rw [e] at hown
      exact ⟨_, _, rfl, hown, hbel⟩

set_option maxRecDepth 100000 in
set_option maxHeartbeats 1000000 in
theorem impl_uetable_any (w : World) :
    Calls Try.prog 10 #[] w fun e w' => ∃ A' cap', e = .returned (.slice A' ueT.length cap') ∧ OwnE w' w.heap.size A' cap' ueT ∧ Below w.heap.size w w' := by
  have HC := Lib.hid tableof_any
  have hmf : ∀ (fn : Fn) (first cap : Array Value) (w : World), (Instr.makeFunc fn first cap).run Try.prog w = .ok (.func fn first cap) w := fun _ _ _ _ => rfl
  go_enter Try.func10, Try.ntmps10
  go_wp2_with fail
  refine (HC.out _).mono ?_
  rintro e w' ⟨A', cap', rfl, ho, hb⟩
  have HO := Lib.hid ho; clear ho
  have HB := Lib.hid hb; clear hb
  go_wp2
  go_ret
  exact ⟨_, _, rfl, HO.out, HB.out⟩

end Go.Proofs.Ythiplncceglnhaa
