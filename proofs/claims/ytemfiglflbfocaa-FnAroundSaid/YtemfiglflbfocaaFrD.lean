/-
  Chapter 18: what FrameNew answers, and the contract of the model's own.
-/
import Derived.Test.YtemfiglflbfocaaFrA
namespace Go.Proofs.Ytemfiglflbfocaa
open Go.RowKit
set_option linter.unusedVariables false

/-- What FrameNew answers: its sides and its pixels. -/
def newW (a b : Int) : Int := if sidesE a b = true then a else 0
def newH (a b : Int) : Int := if sidesE a b = true then b else 0
def newL (a b : Int) : List Int := if sidesE a b = true then List.replicate (a * b).toNat 0 else []
theorem newL_len (a b : Int) : (newL a b).length ≤ 1024 := by
  unfold newL
  split
  · rename_i hs
    obtain ⟨h1, h2, _, _⟩ := sidesE_parts hs
    have hp2 : a * b ≤ (32 : Int) * 32 := Int.mul_le_mul h1.2 h2.2 (by omega) (by decide)
    rw [List.length_replicate]
    omega
  · decide
set_option maxRecDepth 100000 in
set_option maxHeartbeats 2000000 in
theorem spec_framenew_any (a b : Int) (w : World) : Calls Try.prog 25 #[.int .i64 a, .int .i64 b] w fun e w' => ∃ A' c, e = .returned (.agg #[.int .i64 (newW a b), .int .i64 (newH a b), .slice A' (newL a b).length c]) ∧ OwnI w' w.heap.size A' c (newL a b) ∧ Below w.heap.size w w' := by
  have SI := Lib.hid (spec_sidesok_any a b)
  cases hs : sidesE a b with
  | false =>
    rw [hs] at SI
    rw [show newW a b = 0 by simp [newW, hs], show newH a b = 0 by simp [newH, hs], show newL a b = [] by simp [newL, hs]]
    clear hs
    go_enter Try.func25, Try.ntmps25
    go_wp2_with fail
    refine (SI.out _).mono ?_
    rintro e w1 ⟨rfl, hw⟩
    subst hw
    go_wp2
    exact bodyPost_ret (v := .agg #[.int .i64 0, .int .i64 0, .slice none 0 0]) (by simp [results, Try.results25, go_sem]) rfl ⟨none, 0, rfl, ⟨by simp [ivs], .inl ⟨rfl, rfl⟩⟩, below_new _ _⟩
  | true =>
    obtain ⟨h1, h2, _, _⟩ := sidesE_parts hs
    have hp1 : (8 : Int) * 8 ≤ a * b := Int.mul_le_mul h1.1 h2.1 (by decide) (by omega)
    have hp2 : a * b ≤ (32 : Int) * 32 := Int.mul_le_mul h1.2 h2.2 (by omega) (by decide)
    have hw' : IntKind.i64.wrap (a * b) = a * b := IntWalk.i64_in _ (by omega)
    rw [hs] at SI
    rw [show newW a b = a by simp [newW, hs], show newH a b = b by simp [newH, hs], show newL a b = List.replicate (a * b).toNat 0 by simp [newL, hs]]
    obtain ⟨n, hn⟩ := Int.eq_ofNat_of_zero_le (show 0 ≤ a * b by omega)
    rw [hn] at hp1 hp2 hw' ⊢
    rw [← hn] at hw'
    have hw2 : IntKind.i64.wrap (a * b) = (n : Int) := by rw [← hn, hn]; rw [hn] at hw'; exact hw'
    rw [Int.toNat_natCast, List.length_replicate]
    have HMK := Lib.hid (make_ints n (n : Int) rfl (by omega))
    have b1 := below_new w (.cells #[.int .i64 a, .int .i64 b, .slice (some ⟨w.heap.size + 1, 0, none⟩) n n] 26)
    have o := own_ints (w.alloc (.cells #[.int .i64 a, .int .i64 b, .slice (some ⟨w.heap.size + 1, 0, none⟩) n n] 26)) w.heap.size (List.replicate n 0) b1.size (by simp [maxLen]; omega)
    rw [List.length_replicate, World.size_alloc] at o
    have O0 := Lib.hid o
    have B0 := Lib.hid (b1.alloc b1.size (.cells (ivs (List.replicate n 0)).toArray 3))
    clear b1 o
    have hmk := HMK.out
    clear hs hn hw'
    go_enter Try.func25, Try.ntmps25
    go_wp2_with fail
    refine (SI.out _).mono ?_
    rintro e w1 ⟨rfl, hw⟩
    subst hw
    go_wp2
    exact bodyPost_ret (v := .agg #[.int .i64 a, .int .i64 b, .slice (some ⟨w.heap.size + 1, 0, none⟩) n n]) (by simp [results, Try.results25, go_sem]) rfl ⟨_, _, rfl, O0.out, B0.out⟩
end Go.Proofs.Ytemfiglflbfocaa
