/-
  Chapter 16: the contract of the model's Pack4. No condition.
-/
import Derived.Test.YtbiffijjmhpkpaaLaB
namespace Go.Proofs.Ytbiffijjmhpkpaa
open Go.RowKit
set_option linter.unusedVariables false

theorem l1in_lane (x : Int) (w : World) : Calls Try.prog 31 #[.int .i64 x, .int .i64 0, .int .i64 32767] w fun e w' => e = .returned (.bool (laE x)) ∧ w = w' := by
  cases h : laE x with
  | true => rw [laE_true] at h; exact l1in_t _ _ _ (by omega) (by omega) w
  | false => rw [laE_false] at h; exact l1in_f _ _ _ (by omega) w
set_option maxRecDepth 100000 in
set_option maxHeartbeats 1000000 in
theorem spec_pack_0 (p : Nat) (off : Nat) (cA : Nat) (a b c d : Int) (w : World) (c0 : w.cell? ⟨p, off, none⟩ = some (.int .i64 a)) (c1 : w.cell? ⟨p, off + 1, none⟩ = some (.int .i64 b)) (c2 : w.cell? ⟨p, off + 2, none⟩ = some (.int .i64 c)) (c3 : w.cell? ⟨p, off + 3, none⟩ = some (.int .i64 d))  (nd : laE d = false) :
    Calls Try.prog 12 #[.slice (some ⟨p, off, none⟩) 4 cA] w fun e w' => e = .returned (.tuple #[.int .i64 0, .bool false]) ∧ w' = w := by
  have Ld := Lib.hid (l1in_lane d)
  rw [nd] at Ld
  go_enter Try.func12, Try.ntmps12
  go_wp2
  refine wp_loop_rounds 5 ?_
  rw [rounds_succ]
  go_wp2_with fail
  refine (Ld.out _).mono ?_
  rintro e w1 ⟨rfl, rfl⟩
  go_wp2
  go_ret2
  exact ⟨rfl, rfl⟩
set_option maxRecDepth 100000 in
set_option maxHeartbeats 1000000 in
theorem spec_pack_1 (p : Nat) (off : Nat) (cA : Nat) (a b c d : Int) (w : World) (c0 : w.cell? ⟨p, off, none⟩ = some (.int .i64 a)) (c1 : w.cell? ⟨p, off + 1, none⟩ = some (.int .i64 b)) (c2 : w.cell? ⟨p, off + 2, none⟩ = some (.int .i64 c)) (c3 : w.cell? ⟨p, off + 3, none⟩ = some (.int .i64 d)) (gd : laE d = true) (nc : laE c = false) :
    Calls Try.prog 12 #[.slice (some ⟨p, off, none⟩) 4 cA] w fun e w' => e = .returned (.tuple #[.int .i64 0, .bool false]) ∧ w' = w := by
  have Ld := Lib.hid (l1in_lane d)
  rw [gd] at Ld
  have Lc := Lib.hid (l1in_lane c)
  rw [nc] at Lc
  rw [laE_true] at gd
  go_enter Try.func12, Try.ntmps12
  go_wp2
  refine wp_loop_rounds 5 ?_
  rw [rounds_succ]
  go_wp2_with fail
  refine (Ld.out _).mono ?_
  rintro e w1 ⟨rfl, rfl⟩
  go_wp2
  rw [rounds_succ]
  go_wp2_with fail
  refine (Lc.out _).mono ?_
  rintro e w1 ⟨rfl, rfl⟩
  go_wp2
  go_ret2
  exact ⟨rfl, rfl⟩
set_option maxRecDepth 100000 in
set_option maxHeartbeats 1000000 in
theorem spec_pack_2 (p : Nat) (off : Nat) (cA : Nat) (a b c d : Int) (w : World) (c0 : w.cell? ⟨p, off, none⟩ = some (.int .i64 a)) (c1 : w.cell? ⟨p, off + 1, none⟩ = some (.int .i64 b)) (c2 : w.cell? ⟨p, off + 2, none⟩ = some (.int .i64 c)) (c3 : w.cell? ⟨p, off + 3, none⟩ = some (.int .i64 d)) (gd : laE d = true) (gc : laE c = true) (nb : laE b = false) :
    Calls Try.prog 12 #[.slice (some ⟨p, off, none⟩) 4 cA] w fun e w' => e = .returned (.tuple #[.int .i64 0, .bool false]) ∧ w' = w := by
  have Ld := Lib.hid (l1in_lane d)
  rw [gd] at Ld
  have Lc := Lib.hid (l1in_lane c)
  rw [gc] at Lc
  have Lb := Lib.hid (l1in_lane b)
  rw [nb] at Lb
  rw [laE_true] at gd
  rw [laE_true] at gc
  have s2 : d * 65536 + c = c + 65536 * d := by omega
  clear s2
  go_enter Try.func12, Try.ntmps12
  go_wp2
  refine wp_loop_rounds 5 ?_
  rw [rounds_succ]
  go_wp2_with fail
  refine (Ld.out _).mono ?_
  rintro e w1 ⟨rfl, rfl⟩
  go_wp2
  rw [rounds_succ]
  go_wp2_with fail
  refine (Lc.out _).mono ?_
  rintro e w1 ⟨rfl, rfl⟩
  go_wp2
  rw [rounds_succ]
  go_wp2_with fail
  refine (Lb.out _).mono ?_
  rintro e w1 ⟨rfl, rfl⟩
  go_wp2
  go_ret2
  exact ⟨rfl, rfl⟩
set_option maxRecDepth 100000 in
set_option maxHeartbeats 1000000 in
theorem spec_pack_3 (p : Nat) (off : Nat) (cA : Nat) (a b c d : Int) (w : World) (c0 : w.cell? ⟨p, off, none⟩ = some (.int .i64 a)) (c1 : w.cell? ⟨p, off + 1, none⟩ = some (.int .i64 b)) (c2 : w.cell? ⟨p, off + 2, none⟩ = some (.int .i64 c)) (c3 : w.cell? ⟨p, off + 3, none⟩ = some (.int .i64 d)) (gd : laE d = true) (gc : laE c = true) (gb : laE b = true) (na : laE a = false) :
    Calls Try.prog 12 #[.slice (some ⟨p, off, none⟩) 4 cA] w fun e w' => e = .returned (.tuple #[.int .i64 0, .bool false]) ∧ w' = w := by
  have Ld := Lib.hid (l1in_lane d)
  rw [gd] at Ld
  have Lc := Lib.hid (l1in_lane c)
  rw [gc] at Lc
  have Lb := Lib.hid (l1in_lane b)
  rw [gb] at Lb
  have La := Lib.hid (l1in_lane a)
  rw [na] at La
  rw [laE_true] at gd
  rw [laE_true] at gc
  rw [laE_true] at gb
  have s2 : d * 65536 + c = c + 65536 * d := by omega
  clear s2
  go_enter Try.func12, Try.ntmps12
  go_wp2
  refine wp_loop_rounds 5 ?_
  rw [rounds_succ]
  go_wp2_with fail
  refine (Ld.out _).mono ?_
  rintro e w1 ⟨rfl, rfl⟩
  go_wp2
  rw [rounds_succ]
  go_wp2_with fail
  refine (Lc.out _).mono ?_
  rintro e w1 ⟨rfl, rfl⟩
  go_wp2
  rw [rounds_succ]
  go_wp2_with fail
  refine (Lb.out _).mono ?_
  rintro e w1 ⟨rfl, rfl⟩
  go_wp2
  rw [rounds_succ]
  go_wp2_with fail
  refine (La.out _).mono ?_
  rintro e w1 ⟨rfl, rfl⟩
  go_wp2
  go_ret2
  exact ⟨rfl, rfl⟩
set_option maxRecDepth 100000 in
set_option maxHeartbeats 1000000 in
theorem spec_pack_4 (p : Nat) (off : Nat) (cA : Nat) (a b c d : Int) (w : World) (c0 : w.cell? ⟨p, off, none⟩ = some (.int .i64 a)) (c1 : w.cell? ⟨p, off + 1, none⟩ = some (.int .i64 b)) (c2 : w.cell? ⟨p, off + 2, none⟩ = some (.int .i64 c)) (c3 : w.cell? ⟨p, off + 3, none⟩ = some (.int .i64 d)) (gd : laE d = true) (gc : laE c = true) (gb : laE b = true) (ga : laE a = true) :
    Calls Try.prog 12 #[.slice (some ⟨p, off, none⟩) 4 cA] w fun e w' => e = .returned (.tuple #[.int .i64 (paqN a b c d), .bool true]) ∧ w' = w := by
  have Ld := Lib.hid (l1in_lane d)
  rw [gd] at Ld
  have Lc := Lib.hid (l1in_lane c)
  rw [gc] at Lc
  have Lb := Lib.hid (l1in_lane b)
  rw [gb] at Lb
  have La := Lib.hid (l1in_lane a)
  rw [ga] at La
  rw [laE_true] at gd
  rw [laE_true] at gc
  rw [laE_true] at gb
  rw [laE_true] at ga
  have s2 : d * 65536 + c = c + 65536 * d := by omega
  have hN : ((d * 65536 + c) * 65536 + b) * 65536 + a = paqN a b c d := by unfold paqN; omega
  have HN := Lib.hid hN; clear hN
  clear s2
  go_enter Try.func12, Try.ntmps12
  go_wp2
  refine wp_loop_rounds 5 ?_
  rw [rounds_succ]
  go_wp2_with fail
  refine (Ld.out _).mono ?_
  rintro e w1 ⟨rfl, rfl⟩
  go_wp2
  rw [rounds_succ]
  go_wp2_with fail
  refine (Lc.out _).mono ?_
  rintro e w1 ⟨rfl, rfl⟩
  go_wp2
  rw [rounds_succ]
  go_wp2_with fail
  refine (Lb.out _).mono ?_
  rintro e w1 ⟨rfl, rfl⟩
  go_wp2
  rw [rounds_succ]
  go_wp2_with fail
  refine (La.out _).mono ?_
  rintro e w1 ⟨rfl, rfl⟩
  go_wp2
  rw [rounds_succ]
  go_wp2
  go_ret2
  exact ⟨by rw [← HN.out]; rfl, rfl⟩
set_option maxRecDepth 100000 in
set_option maxHeartbeats 1000000 in
theorem spec_pack_off (A : Option Addr) (n cA : Nat) (hn : n ≠ 4) (hm : n ≤ 281474976710656) (w : World) :
    Calls Try.prog 12 #[.slice A n cA] w fun e w' => e = .returned (.tuple #[.int .i64 0, .bool false]) ∧ w' = w := by
  have q : ((n : Int) == 4) = false := by simp; omega
  go_enter Try.func12, Try.ntmps12
  go_wp2
  refine wp_loop_rounds 1 ?_
  rw [rounds_succ]
  go_wp2
  go_ret2
  exact ⟨rfl, rfl⟩
theorem spec_pack_any (A : Option Addr) (cA : Nat) (l : List Int) (w : World) (hA : Ints w w.heap.size A l) :
    Calls Try.prog 12 #[.slice A l.length cA] w fun e w' => e = .returned (.tuple #[.int .i64 (paqV l), .bool (paqE l)]) ∧ w' = w := by
  by_cases hl : l.length = 4
  · obtain ⟨p, off, rfl, hp, hc⟩ := hA.at 0 (by omega)
    have h0 := hc 0 (by omega); have h1 := hc 1 (by omega); have h2 := hc 2 (by omega); have h3 := hc 3 (by omega)
    rw [hl]
    rw [list_four hl] at h0 h1 h2 h3 ⊢
    generalize l.getD 0 0 = a at *
    generalize l.getD 1 0 = b at *
    generalize l.getD 2 0 = c at *
    generalize l.getD 3 0 = d at *
    have hE := @paqE_four a b c d
    have hV : paqE [a, b, c, d] = false → paqV [a, b, c, d] = 0 := fun h => by unfold paqV; rw [h]; rfl
    cases gd : laE d with
    | false => rw [gd] at hE; simp only [Bool.and_false] at hE; rw [hE, hV hE]; exact spec_pack_0 p off cA a b c d w h0 h1 h2 h3 gd
    | true =>
      cases gc : laE c with
      | false => rw [gd, gc] at hE; simp only [Bool.and_false, Bool.false_and] at hE; rw [hE, hV hE]; exact spec_pack_1 p off cA a b c d w h0 h1 h2 h3 gd gc
      | true =>
        cases gb : laE b with
        | false => rw [gd, gc, gb] at hE; simp only [Bool.and_false, Bool.false_and] at hE; rw [hE, hV hE]; exact spec_pack_2 p off cA a b c d w h0 h1 h2 h3 gd gc gb
        | true =>
          cases ga : laE a with
          | false => rw [gd, gc, gb, ga] at hE; simp only [Bool.false_and] at hE; rw [hE, hV hE]; exact spec_pack_3 p off cA a b c d w h0 h1 h2 h3 gd gc gb ga
          | true => rw [gd, gc, gb, ga] at hE; simp only [Bool.and_true] at hE; rw [paqV_four hE, hE]; exact spec_pack_4 p off cA a b c d w h0 h1 h2 h3 gd gc gb ga
  · have e1 : paqE l = false := by unfold paqE; rw [decide_eq_false hl]; rfl
    have e2 : paqV l = 0 := by unfold paqV; rw [e1]; rfl
    rw [e1, e2]
    exact spec_pack_off A l.length cA hl hA.1 w
end Go.Proofs.Ytbiffijjmhpkpaa
