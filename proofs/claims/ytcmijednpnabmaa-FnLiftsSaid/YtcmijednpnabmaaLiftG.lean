/-
  Contracts of the program's Fast4 and Fast8. Condition: the world is any; the row is any that a slice can hold.
-/
import Derived.RangeFuncNested
import Derived.RangeFuncBound
import Derived.RangeFuncCalls
import Derived.RangeFuncLeaves
import Derived.Shelf.Abstract
import Derived.Shelf.RegionOpen
import Derived.WalkKit
import Derived.OwnWalkIn
import Derived.TacticsInMore
import Derived.LoopNIn
import Derived.LoopIn
import Derived.RangeFuncBox
import Derived.Test.YtcmijednpnabmaaLiftF
import Derived.Test.YtcmijednpnabmaaFormB
namespace Go.Proofs.Ytcmijednpnabmaa
open Go.RowKit
attribute [local go_sem] Oper.semAt_some
set_option linter.unusedVariables false

theorem putP_out {L q : List Int} {o i : Nat} (h : o + q.length ≤ L.length) (hi : i < o ∨ o + q.length ≤ i) : (putP L o q).getD i 0 = L.getD i 0 := by
  have e : (L.take o).length = o := by rw [List.length_take]; omega
  simp only [putP, List.getD_eq_getElem?_getD]
  rcases hi with hi | hi
  · rw [List.append_assoc, List.getElem?_append_left (by omega), List.getElem?_take, if_pos hi]
  · rw [List.append_assoc, List.getElem?_append_right (by omega), e, List.getElem?_append_right (by omega), List.getElem?_drop, show o + q.length + (i - o - q.length) = i by omega]
/-- The rows of these numbers lifted, one after the other. -/
def foL (n : Nat) (m : List Int) (pre : List (Fin n)) : List Int := pre.foldl (fun L x => putP L (x.1 * n) (liR n (rowV n L x.1))) m
theorem foL_snoc (n : Nat) (m : List Int) (pre : List (Fin n)) (x : Fin n) : foL n m (pre ++ [x]) = putP (foL n m pre) (x.1 * n) (liR n (rowV n (foL n m pre) x.1)) := by simp [foL]
theorem step_len {n : Nat} {L : List Int} (hL : L.length = n * n) (x : Fin n) : x.1 * n + (liR n (rowV n L x.1)).length ≤ L.length := by
  rw [liR_full (rowV_len hL x.2), hL]
  exact row_fits x.2
theorem foL_len {n : Nat} : ∀ (pre : List (Fin n)) (m : List Int), m.length = n * n → (foL n m pre).length = n * n
  | [], m, h => h
  | x :: pre, m, h => foL_len pre _ (by rw [putP_len (step_len h x)]; exact h)
theorem foL_up {n : Nat} {m : List Int} (hm : m.length = n * n) : ∀ (k : Nat), k ≤ n → ∀ y x, y < n → x < n → (foL n m (upF n k)).getD (y * n + x) 0 = if y < k then (liR n (rowV n m y)).getD x 0 else m.getD (y * n + x) 0
  | 0, _, y, x, hy, hx => by rw [if_neg (by omega)]; rfl
  | k + 1, hk, y, x, hy, hx => by
    have ih := foL_up hm k (by omega)
    have hlen := foL_len (upF n k) m hm
    have hst := step_len hlen ⟨k, hk⟩
    have hrl : (liR n (rowV n (foL n m (upF n k)) k)).length = n := liR_full (rowV_len hlen hk)
    rw [upF_succ hk, foL_snoc]
    by_cases e : y = k
    · subst e
      rw [if_pos (by omega), putP_at hst (by rw [hrl]; exact hx)]
      have er : rowV n (foL n m (upF n y)) y = rowV n m y := list_of (k := n) (rowV_len hlen hy) (rowV_len hm hy) fun i hi => by
        rw [rowV_at hi, rowV_at hi, ih y i hy hi, if_neg (by omega)]
      rw [er]
    · rw [putP_out hst ?_, ih y x hy hx]
      · by_cases h2 : y < k
        · rw [if_pos h2, if_pos (by omega)]
        · rw [if_neg h2, if_neg (by omega)]
      · rw [hrl]
        rcases Nat.lt_or_gt_of_ne e with h | h
        · have := Nat.mul_le_mul_right n (show y + 1 ≤ k by omega)
          rw [Nat.add_mul, Nat.one_mul] at this
          left
          show y * n + x < k * n
          omega
        · have := Nat.mul_le_mul_right n (show k + 1 ≤ y by omega)
          rw [Nat.add_mul, Nat.one_mul] at this
          right
          show k * n + n ≤ y * n + x
          omega
theorem foL_all {n : Nat} (hn : n = 4 ∨ n = 8) {m : List Int} (hm : m.length = n * n) (h : ∀ i, i < n * n → -20000000000 ≤ m.getD i 0 ∧ m.getD i 0 ≤ 20000000000) : foL n m (List.finRange n) = rowsL n m := by
  refine sq_ext (foL_len _ _ hm) (rowsL_len _ _) fun y x hy hx => ?_
  rw [← upF_all, foL_up hm n (Nat.le_refl n) y x hy hx, if_pos hy, rowsL_at m hy hx, liR_small hn (rowV_len hm hy) (fun i hi => by rw [rowV_at hi]; exact h _ (place_lt hy hi)), liftL_at _ hx]
  exact sumTo_congr n fun j hj => by rw [rowV_at hj]


theorem new_cell (w : World) (v : Value) (t : TypeId) : (w.alloc (.cells #[v] t)).cell? ⟨w.heap.size, 0, none⟩ = some v := (Boxed.new w t v).cell
theorem alloc_cell {w : World} {a : Addr} {v : Value} (o : Obj) (h : w.cell? a = some v) : (w.alloc o).cell? a = some v := Go.cell_kept h (World.grownBy_alloc w o none) (fun r e => by cases e)

set_option maxRecDepth 100000 in
set_option maxHeartbeats 1000000 in
theorem chunk_4 (A : Option Addr) (ca : Nat) (w : World) :
    Calls Try.prog 58 #[.slice A 16 ca, .int .i64 4] w fun e w' => e = .returned (.func (.func 66) #[] #[.pointer (some ⟨w.heap.size, 0, none⟩), .pointer (some ⟨w.heap.size + 1, 0, none⟩)]) ∧ w' = (w.alloc (.cells #[.slice A 16 ca] 22)).alloc (.cells #[.int .i64 4] 3) := by
  have hmf : ∀ (fn : Fn) (first cap : Array Value) (w : World), (Instr.makeFunc fn first cap).run Try.prog w = .ok (.func fn first cap) w := fun _ _ _ _ => rfl
  go_enter Try.func58, Try.ntmps58
  go_wp2
  go_ret
  exact ⟨by simp, rfl⟩

set_option maxRecDepth 100000 in
set_option maxHeartbeats 2000000 in
theorem both_no_4 (A : Option Addr) (ca : Nat) (l : List Int) (hf : fitL 4 l = false) (w : World) (hA : Ints w w.heap.size A l) :
    Calls Try.prog 45 #[.slice A l.length ca, .int .i64 4, .func (.func 39) #[] #[]] w fun e w' => ∃ A' c, e = .returned (.slice A' 0 c) ∧ OwnI w' w.heap.size A' c [] ∧ Below w.heap.size w w' := by
  have hnm := hA.1
  have B0 := Lib.hid (below_new w (.cells #[.func (.func 39) #[] #[]] 32))
  have O0 : Hid (OwnI (w.alloc (.cells #[.func (.func 39) #[] #[]] 32)) w.heap.size none 0 []) := Lib.hid (World.ownsRow_nil _ w.heap.size 3 1)
  have EL := Lib.hid (impl_elements_any A ca l _ ((hA.below B0.out (Nat.le_refl _)).mono B0.out.size))
  by_cases hl : l.length = 16
  · have hall : l.all fitE = false := by
      unfold fitL at hf
      rw [decide_eq_true (by omega), Bool.and_true] at hf
      exact hf
    rw [hall, hl] at EL
    rw [hl]
    clear hA hf hl hall hnm
    go_enter Try.func45, Try.ntmps45
    go_wp2_with fail
    refine EL.out.mono ?_
    rintro e w1 ⟨rfl, hw⟩
    subst hw
    go_wp2
    go_ret
    exact ⟨_, _, rfl, O0.out, B0.out⟩
  · obtain ⟨n, hn⟩ : ∃ n, n = l.length := ⟨_, rfl⟩
    rw [← hn] at hl hnm ⊢
    have hq : ((n : Int) != 16) = true := by rw [bne_iff_ne]; omega
    clear hA hf hn hl EL
    go_enter Try.func45, Try.ntmps45
    go_wp2
    go_ret
    exact ⟨_, _, rfl, O0.out, B0.out⟩
theorem chunk_stops_4 (n : Nat) (hn : 1 ≤ n) (Bs Bn b cap : Nat) (hcap : 16 ≤ cap) (hcm : cap ≤ 9223372036854775807) (w : World) (hs : Bs < w.heap.size) (hb : Bn < w.heap.size)
    (hBs : w.cell? ⟨Bs, 0, none⟩ = some (.slice (some ⟨b, 0, none⟩) 16 cap)) (hBn : w.cell? ⟨Bn, 0, none⟩ = some (.int .i64 4)) :
    SeqStopsK Fence.wide n Try.prog 66 #[.pointer (some ⟨Bs, 0, none⟩), .pointer (some ⟨Bn, 0, none⟩)] (fun x : Fin 4 => #[.slice (some ⟨b, x.1 * 4, none⟩) 4 4]) (KpB Bs Bn) (fun xs => xs = List.finRange 4) (fun _ => True) 4 w := fun l J Jx W hW hJ hJx hY h0 =>
  chunk1_4 n hn l Bs Bn b cap hcap hcm J Jx (fun pre W1 h => hJ pre W1 W1.drew none h (part_drew W1 none) (fun r e => by cases e)) hY W ((hW.cell (p := ⟨Bs, 0, none⟩) hs).trans hBs) ((hW.cell (p := ⟨Bn, 0, none⟩) hb).trans hBn) h0

set_option maxRecDepth 100000 in
set_option maxHeartbeats 4000000 in
theorem both_yes_4 (A : Option Addr) (ca : Nat) (l : List Int) (hf : fitL 4 l = true) (w : World) (hA : Ints w w.heap.size A l) :
    Calls Try.prog 45 #[.slice A 16 ca, .int .i64 4, .func (.func 39) #[] #[]] w fun e w' => ∃ A' c, e = .returned (.slice A' 16 c) ∧ OwnI w' w.heap.size A' c (xfR 4 true l) ∧ Below w.heap.size w w' := by
  have hl : l.length = 16 := fitL_len hf
  have hall : l.all fitE = true := by
    unfold fitL at hf
    simp only [Bool.and_eq_true] at hf
    exact hf.1
  have hb0 := below_new w (.cells #[.func (.func 39) #[] #[]] 32)
  have hA0 := (hA.below hb0 (Nat.le_refl _)).mono hb0.size
  have EL := Lib.hid (impl_elements_any A ca l _ hA0)
  rw [hall, hl] at EL
  have B0 := Lib.hid hb0; have A0 := Lib.hid hA0
  have CO := Lib.hid @impl_columns_16; have CH := Lib.hid @chunk_4
  refine (callsIn_wide (n := 6)).1 ?_
  refine callsIn_of_wp_marks Try.func45 rfl trivial ?_ rfl
  simp only [Try.ntmps45, List.size_toArray, List.length_cons, List.length_nil, Nat.reduceAdd, Nat.reduceSub, Array.replicate_succ, Array.replicate_zero, List.push_toArray, List.append_toArray, List.nil_append, List.cons_append]
  gi_wp2_with fail
  refine ⟨trivial, (callsIn_wide.2 EL.out).mono ?_⟩
  rintro e w1 ⟨rfl, hw⟩
  subst hw
  gi_wp2
  have hel := fitL_at hf
  have q1 := colL_len 4 l
  have q2 := foL_all (n := 4) (by decide) q1 (fun i hi => by have := cols_bound (n := 4) (B := 1000000000) hel i hi; omega)
  have q3 := rows_bound (n := 4) (by decide) (B := 1000000000) (by decide) (cols_bound (n := 4) (B := 1000000000) hel)
  have q4 := colL_len 4 (rowsL 4 (colL 4 l))
  have q5 := foL_all (n := 4) (by decide) q4 (fun i hi => by have := cols_bound (n := 4) (B := 16 * 1000000000) q3 i hi; omega)
  have q6 := rowsL_len 4 (colL 4 l)
  have q7 := fast_fit' hf
  have E1 := Lib.hid q1; have E2 := Lib.hid q2; have E4 := Lib.hid q4; have E5 := Lib.hid q5; have E6 := Lib.hid q6; have E7 := Lib.hid q7; have HL := Lib.hid hl
  have LP := Lib.hid @lift_four_part
  clear q1 q2 q3 q4 q5 q6 q7 hel hall hf hA hb0 hA0 EL hl
  obtain ⟨lq, hlq⟩ : ∃ w0, w0 = w.alloc (.cells #[.func (.func 39) #[] #[]] 32) := ⟨_, rfl⟩
  have hz : lq.heap.size = w.heap.size + 1 := by rw [hlq]; simp
  have hc0 : lq.cell? ⟨w.heap.size, 0, none⟩ = some (.func (.func 39) #[] #[]) := by rw [hlq]; exact (new_cell w _ _)
  have C0 := Lib.hid hc0; have Z0 : Hid (w.heap.size < lq.heap.size) := Lib.hid (by omega)
  rw [← hlq] at A0 B0 ⊢
  clear hlq hc0 hz
  refine wpIn_loop_rounds 3 ?_
  rw [roundsIn_succ]
  gi_wp2_with fail
  refine ⟨trivial, (callsIn_wide.2 (CO.out A ca l HL.out _ A0.out)).mono ?_⟩
  rintro e u1 ⟨G1, c1, rfl, ho, hb⟩
  unfold OwnI at ho
  rw [E1.out] at ho
  obtain ⟨g1, rfl, hbg, hgs, hcn, hcm⟩ := own_where' ho E1.out (by decide)
  unfold maxLen at hcm
  have GB1 := Lib.hid hbg; have GS1 := Lib.hid hgs; have CN1 := Lib.hid hcn; have CM1 := Lib.hid hcm
  have OU1 := Lib.hid ho; have BU1 := Lib.hid (below_up B0.out hb B0.out.size); have CU1 := Lib.hid ((hb.cell (p := ⟨w.heap.size, 0, none⟩) (by have := Z0.out; simp; omega)).trans C0.out)
  have ZU1 : Hid (lq.heap.size ≤ u1.heap.size) := Lib.hid hb.size
  clear ho hb hbg hgs hcn hcm
  gi_wp2_with fail
  refine ⟨trivial, (callsIn_wide.2 (CH.out _ c1 u1)).mono ?_⟩
  rintro e v1 ⟨rfl, hv⟩
  have hs1 : v1.cell? ⟨u1.heap.size, 0, none⟩ = some (.slice (some ⟨g1, 0, none⟩) 16 c1) := by rw [hv]; exact alloc_cell _ (new_cell _ _ _)
  have hs2 : v1.cell? ⟨u1.heap.size + 1, 0, none⟩ = some (.int .i64 4) := by rw [hv]; have := new_cell (u1.alloc (.cells #[.slice (some ⟨g1, 0, none⟩) 16 c1] 22)) (.int .i64 4) 3; rw [World.size_alloc] at this; exact this
  have hs3 : v1.heap.size = u1.heap.size + 2 := by rw [hv]; simp
  have hs4 : Below u1.heap.size u1 v1 := by rw [hv]; exact ((Below.refl _ u1).alloc (Nat.le_refl _) _).alloc (by simp) _
  have hs5 : v1.ownsRow lq.heap.size 3 1 (.slice (some ⟨g1, 0, none⟩) 16 c1) 16 (ivs (colL 4 l)) := by rw [hv]; exact (OU1.out.alloc _).alloc _
  have S1 := Lib.hid hs1; have S2 := Lib.hid hs2; have S3 := Lib.hid hs3; have S4 := Lib.hid hs4; have S5 := Lib.hid hs5
  clear hv hs1 hs2 hs3 hs4 hs5
  gi_wp2
  have y1 := S3.out; have y2 := GS1.out; have y3 := GB1.out; have y4 := ZU1.out; have y5 := Z0.out
  refine wpIn_rangeFunc_ownG rfl (by omega) (gf := 66) (lb := #[.pointer (some ⟨u1.heap.size, 0, none⟩), .pointer (some ⟨u1.heap.size + 1, 0, none⟩)]) rfl trivial (enters_of Try.func66 (by kernel_rfl) rfl)
    (chunk_stops_4 _ (by omega) u1.heap.size (u1.heap.size + 1) g1 c1 CN1.out CM1.out v1 (by omega) (by omega) S1.out S2.out) kpb_t (fun W l o o' hl _ _ _ => kpb_b (n := v1.heap.size) (by omega) (by omega) W l o' hl) (Below.refl _ _) (fun _ => rfl)
    (fun pre W => (W.ownsRow lq.heap.size 3 1 (.slice (some ⟨g1, 0, none⟩) 16 c1) 16 (ivs (foL 4 (colL 4 l) pre)) ∧ W.cell? ⟨w.heap.size, 0, none⟩ = some (.func (.func 39) #[] #[]) ∧ v1.heap.size ≤ W.heap.size) ∧ Below w.heap.size w W)
    (fun _ _ _ => False)
    (OwnFrom.and (fun s A' B' row hs hg hr => ⟨hs.1.kept hg (.inr fun e => by have h9 : _ ≤ g1 := (hr _ e.symm).1; omega), Go.cell_kept hs.2.1 hg (fun r e => (hr r e).2), Nat.le_trans hs.2.2 hg.size⟩) (ownFrom_below (Nat.le_refl _) (by omega)))
    (fun _ _ _ _ _ hs _ _ => hs)
    ⟨⟨S5.out, (S4.out.cell (p := ⟨w.heap.size, 0, none⟩) (by simp; omega)).trans CU1.out, Nat.le_refl _⟩, below_up BU1.out S4.out BU1.out.size⟩
    ?a1 ?assign ?body ?done ?stop
  case assign =>
    intro l x W K hK
    gi_wp2
    exact hK
  case body =>
    rintro ln pre x W ⟨⟨hown, hbox, hsz⟩, hB⟩ hlen
    have hml := foL_len pre _ E1.out
    have hrl := rowV_len hml x.2
    have hft := row_fits x.2
    have hP : PartI W lq.heap.size g1 16 c1 (foL 4 (colL 4 l) pre) (x.1 * 4) (rowV 4 (foL 4 (colL 4 l) pre) x.1) := by
      unfold PartI rowV
      rw [putP_same _ _ (by omega)]
      exact hown
    have LX := Lib.hid (LP.out _ _ _ _ (x.1 * 4) 4 _ _ hrl hml (by omega) (by decide) W hP)
    have HSN := Lib.hid (foL_snoc 4 (colL 4 l) pre x)
    have HBW := Lib.hid hB
    clear hml hrl hft hP hown hlen hB
    gi_wp2_with fail
    refine ⟨trivial, (CallsIn.inRound ln (callsIn_wide.2 LX.out)).mono ?_⟩
    rintro e W3 ⟨rfl, hP3, hg3⟩
    gi_wp2
    refine ⟨KeepsFrom.of_grownBy hg3 (fun j e => by cases e; omega), ⟨World.cell?_of_block (hg3.block _ (by show u1.heap.size < _; omega) (by simp; omega)), World.cell?_of_block (hg3.block _ (by show u1.heap.size + 1 < _; omega) (by simp; omega))⟩, ⟨by rw [HSN.out]; exact hP3, ?_, Nat.le_trans hsz hg3.size⟩, HBW.out.trans (part_below hg3 (by omega) HBW.out.size)⟩
    · exact (World.cell?_of_block (hg3.block _ (by show w.heap.size < _; omega) (by simp; omega))).trans hbox
  case stop =>
    rintro D c pre W _ _ h _
    exact h.elim
  case done =>
    rintro D1 xs x1 hD rfl ⟨⟨hown, hbox, hsz⟩, hB⟩ hK
    rw [E2.out] at hown
    have I1 : Hid (Ints x1 x1.heap.size (some ⟨g1, 0, none⟩) (rowsL 4 (colL 4 l))) := Lib.hid (OwnI.ints (own_back hown E6.out) (by rw [E6.out]; decide))
    have B1 := Lib.hid hB; have C1 := Lib.hid hbox; have Z1 : Hid (w.heap.size < x1.heap.size) := Lib.hid (by omega)
    have K1 := Lib.hid hK; have DL : Hid (D1 < x1.heap.size) := Lib.hid (Array.getElem?_eq_some_iff.1 hK).1; have ND : Hid (w.heap.size ≤ D1) := Lib.hid (by omega)
    clear hown hbox hsz hB hK hD y1 y2 y3 y4 y5
    gi_wp2
    rw [roundsIn_succ]
    gi_wp2_with fail
    refine ⟨trivial, (callsIn_wide.2 (CO.out _ _ _ E6.out _ I1.out)).mono ?_⟩
    rintro e u2 ⟨G2, c2, rfl, ho, hb⟩
    unfold OwnI at ho
    rw [E4.out] at ho
    obtain ⟨g2, rfl, hbg, hgs, hcn, hcm⟩ := own_where' ho E4.out (by decide)
    unfold maxLen at hcm
    have GB2 := Lib.hid hbg; have GS2 := Lib.hid hgs; have CN2 := Lib.hid hcn; have CM2 := Lib.hid hcm
    have OU2 := Lib.hid ho; have BU2 := Lib.hid (below_up B1.out hb B1.out.size); have CU2 := Lib.hid ((hb.cell (p := ⟨w.heap.size, 0, none⟩) (by have := Z1.out; simp; omega)).trans C1.out)
    have ZU2 : Hid (x1.heap.size ≤ u2.heap.size) := Lib.hid hb.size
    have DU2 : Hid (u2.heap[D1]? = some (.deferred (some []))) := Lib.hid ((hb.block D1 (Array.getElem?_eq_some_iff.1 K1.out).1).trans K1.out)
    have NE : Hid (D1 < g2) := Lib.hid (by have := DL.out; have := GB2.out; omega)
    clear ho hb hbg hgs hcn hcm
    gi_wp2_with fail
    refine ⟨trivial, (callsIn_wide.2 (CH.out _ c2 u2)).mono ?_⟩
    rintro e v2 ⟨rfl, hv⟩
    have hs1 : v2.cell? ⟨u2.heap.size, 0, none⟩ = some (.slice (some ⟨g2, 0, none⟩) 16 c2) := by rw [hv]; exact alloc_cell _ (new_cell _ _ _)
    have hs2 : v2.cell? ⟨u2.heap.size + 1, 0, none⟩ = some (.int .i64 4) := by rw [hv]; have := new_cell (u2.alloc (.cells #[.slice (some ⟨g2, 0, none⟩) 16 c2] 22)) (.int .i64 4) 3; rw [World.size_alloc] at this; exact this
    have hs3 : v2.heap.size = u2.heap.size + 2 := by rw [hv]; simp
    have hs4 : Below u2.heap.size u2 v2 := by rw [hv]; exact ((Below.refl _ u2).alloc (Nat.le_refl _) _).alloc (by simp) _
    have hs5 : v2.ownsRow x1.heap.size 3 1 (.slice (some ⟨g2, 0, none⟩) 16 c2) 16 (ivs (colL 4 (rowsL 4 (colL 4 l)))) := by rw [hv]; exact (OU2.out.alloc _).alloc _
    have S1 := Lib.hid hs1; have S2 := Lib.hid hs2; have S3 := Lib.hid hs3; have S4 := Lib.hid hs4; have S5 := Lib.hid hs5
    clear hv hs1 hs2 hs3 hs4 hs5
    gi_wp2
    have y1 := S3.out; have y2 := GS2.out; have y3 := GB2.out; have y4 := ZU2.out; have y5 := Z1.out
    refine wpIn_rangeFunc_ownG rfl (by omega) (gf := 66) (lb := #[.pointer (some ⟨u2.heap.size, 0, none⟩), .pointer (some ⟨u2.heap.size + 1, 0, none⟩)]) rfl trivial (enters_of Try.func66 (by kernel_rfl) rfl)
      (chunk_stops_4 _ (by omega) u2.heap.size (u2.heap.size + 1) g2 c2 CN2.out CM2.out v2 (by omega) (by omega) S1.out S2.out) kpb_t (fun W l o o' hl _ _ _ => kpb_b (n := v2.heap.size) (by omega) (by omega) W l o' hl) (Below.refl _ _) (fun _ => rfl)
      (fun pre W => (W.ownsRow x1.heap.size 3 1 (.slice (some ⟨g2, 0, none⟩) 16 c2) 16 (ivs (foL 4 (colL 4 (rowsL 4 (colL 4 l))) pre)) ∧ W.cell? ⟨w.heap.size, 0, none⟩ = some (.func (.func 39) #[] #[]) ∧ v2.heap.size ≤ W.heap.size ∧ W.heap[D1]? = some (.deferred (some []))) ∧ Below w.heap.size w W)
      (fun _ _ _ => False)
      (OwnFrom.and (fun s A' B' row hs hg hr => ⟨hs.1.kept hg (.inr fun e => by have h9 : _ ≤ g2 := (hr _ e.symm).1; omega), Go.cell_kept hs.2.1 hg (fun r e => (hr r e).2), Nat.le_trans hs.2.2.1 hg.size, (hg.block D1 (Array.getElem?_eq_some_iff.1 hs.2.2.2).1 (fun e => by have h9 := (hr _ e.symm).1; have := DL.out; omega)).trans hs.2.2.2⟩) (ownFrom_below (Nat.le_refl _) (by omega)))
      (fun _ _ _ _ _ hs _ _ => hs)
      ⟨⟨S5.out, (S4.out.cell (p := ⟨w.heap.size, 0, none⟩) (by simp; omega)).trans CU2.out, Nat.le_refl _, (S4.out.block D1 (Array.getElem?_eq_some_iff.1 DU2.out).1).trans DU2.out⟩, below_up BU2.out S4.out BU2.out.size⟩
      ?a2 ?assign ?body ?done ?stop
    case assign =>
      intro l x W K hK
      gi_wp2
      exact hK
    case body =>
      rintro ln pre x W ⟨⟨hown, hbox, hsz, hdd⟩, hB⟩ hlen
      have hml := foL_len pre _ E4.out
      have hrl := rowV_len hml x.2
      have hft := row_fits x.2
      have hP : PartI W x1.heap.size g2 16 c2 (foL 4 (colL 4 (rowsL 4 (colL 4 l))) pre) (x.1 * 4) (rowV 4 (foL 4 (colL 4 (rowsL 4 (colL 4 l))) pre) x.1) := by
        unfold PartI rowV
        rw [putP_same _ _ (by omega)]
        exact hown
      have LX := Lib.hid (LP.out _ _ _ _ (x.1 * 4) 4 _ _ hrl hml (by omega) (by decide) W hP)
      have HSN := Lib.hid (foL_snoc 4 (colL 4 (rowsL 4 (colL 4 l))) pre x)
      have HBW := Lib.hid hB
      clear hml hrl hft hP hown hlen hB
      gi_wp2_with fail
      refine ⟨trivial, (CallsIn.inRound ln (callsIn_wide.2 LX.out)).mono ?_⟩
      rintro e W3 ⟨rfl, hP3, hg3⟩
      gi_wp2
      refine ⟨KeepsFrom.of_grownBy hg3 (fun j e => by cases e; omega), ⟨World.cell?_of_block (hg3.block _ (by show u2.heap.size < _; omega) (by simp; omega)), World.cell?_of_block (hg3.block _ (by show u2.heap.size + 1 < _; omega) (by simp; omega))⟩, ⟨by rw [HSN.out]; exact hP3, ?_, Nat.le_trans hsz hg3.size, ?_⟩, HBW.out.trans (part_below hg3 (by omega) HBW.out.size)⟩
      · exact (World.cell?_of_block (hg3.block _ (by show w.heap.size < _; omega) (by simp; omega))).trans hbox
      · exact (hg3.block _ (Array.getElem?_eq_some_iff.1 hdd).1 (by have := NE.out; simp; omega)).trans hdd
    case stop =>
      rintro D c pre W _ _ h _
      exact h.elim
    case done =>
      rintro D2 xs x2 hD rfl ⟨⟨hown, hbox, hsz, hdd⟩, hB⟩ hK
      rw [E5.out] at hown
      have hne : D1 < D2 := by have := DL.out; omega
      rw [E7.out] at hown
      have R1 : Hid ((x2.putObj D2 (.deferred none)).heap[D1]? = some (.deferred (some []))) := Lib.hid ((World.putObj_heap_other (by omega)).trans hdd)
      have o1 := World.ownsRow.kept hown (grownBy_putObj' x2 D2 (.deferred none)) (.inr fun e => by have h9 : g2 = D2 := Option.some.inj e; omega)
      have o2 := World.ownsRow.kept o1 (grownBy_putObj' _ D1 (.deferred none)) (.inr fun e => by have h9 : g2 = D1 := Option.some.inj e; have := NE.out; omega)
      have hxl : (xfR 4 true l).length = 16 := by rw [← E7.out]; exact rowsL_len 4 _
      have O9 := Lib.hid (own_back (own_lower o2 (show w.heap.size ≤ x1.heap.size by have := Z1.out; omega)) hxl)
      have B9 := Lib.hid ((hB.trans (belowK_b (w := w) (Nat.le_refl _) x2 D2 (.deferred (some [])) (.deferred none) (by omega) hK rfl rfl)).trans (belowK_b (w := w) (Nat.le_refl _) _ D1 (.deferred (some [])) (.deferred none) (by have := ND.out; omega) R1.out rfl rfl))
      have K9 := Lib.hid hK
      clear hown hbox hsz hB hK hD o1 o2 hdd y1 y2 y3 y4 y5
      gi_wp2
      rw [roundsIn_succ]
      gi_wp2
      refine ⟨by simp, .inl ⟨_, _, rfl, run_takeDeferred K9.out, by simp, .inl ⟨_, _, rfl, run_takeDeferred R1.out, ?_⟩⟩⟩
      exact ⟨_, results_tmp rfl _ _ _, _, _, rfl, O9.out, B9.out⟩


set_option maxRecDepth 100000 in
set_option maxHeartbeats 1000000 in
theorem both_4 (A : Option Addr) (ca : Nat) (l : List Int) (w : World) (hA : Ints w w.heap.size A l) :
    Calls Try.prog 45 #[.slice A l.length ca, .int .i64 4, .func (.func 39) #[] #[]] w fun e w' => ∃ A' c, e = .returned (.slice A' (xfR 4 true l).length c) ∧ OwnI w' w.heap.size A' c (xfR 4 true l) ∧ Below w.heap.size w w' := by
  cases hf : fitL 4 l with
  | false =>
    rw [xfR_unfit true hf]
    exact both_no_4 A ca l hf w hA
  | true =>
    rw [show (xfR 4 true l).length = 16 by rw [xfR_fit true hf]; exact mulF_len _ _ _, show l.length = 16 from fitL_len hf]
    exact both_yes_4 A ca l hf w hA

set_option maxRecDepth 100000 in
set_option maxHeartbeats 1000000 in
theorem impl_fast4_any (A : Option Addr) (ca : Nat) (l : List Int) (w : World) (hA : Ints w w.heap.size A l) :
    Calls Try.prog 23 #[.slice A l.length ca] w fun e w' => ∃ A' c, e = .returned (.slice A' (xfR 4 true l).length c) ∧ OwnI w' w.heap.size A' c (xfR 4 true l) ∧ Below w.heap.size w w' := by
  have SO := Lib.hid (both_4 A ca l w hA)
  obtain ⟨z, hz⟩ : ∃ z, z = xfR 4 true l := ⟨_, rfl⟩
  rw [← hz] at SO ⊢
  obtain ⟨n, hn⟩ : ∃ n, n = l.length := ⟨_, rfl⟩
  rw [← hn] at SO ⊢
  clear hA hz hn
  go_enter Try.func23, Try.ntmps23
  go_wp2_with fail
  refine SO.out.mono ?_
  rintro e w1 ⟨A1, c1, rfl, ho1, hb1⟩
  have O1 := Lib.hid ho1; have B1 := Lib.hid hb1
  clear ho1 hb1
  go_wp2
  go_ret
  exact ⟨_, _, rfl, O1.out, B1.out⟩

set_option maxRecDepth 100000 in
set_option maxHeartbeats 1000000 in
theorem chunk_8 (A : Option Addr) (ca : Nat) (w : World) :
    Calls Try.prog 58 #[.slice A 64 ca, .int .i64 8] w fun e w' => e = .returned (.func (.func 66) #[] #[.pointer (some ⟨w.heap.size, 0, none⟩), .pointer (some ⟨w.heap.size + 1, 0, none⟩)]) ∧ w' = (w.alloc (.cells #[.slice A 64 ca] 22)).alloc (.cells #[.int .i64 8] 3) := by
  have hmf : ∀ (fn : Fn) (first cap : Array Value) (w : World), (Instr.makeFunc fn first cap).run Try.prog w = .ok (.func fn first cap) w := fun _ _ _ _ => rfl
  go_enter Try.func58, Try.ntmps58
  go_wp2
  go_ret
  exact ⟨by simp, rfl⟩

set_option maxRecDepth 100000 in
set_option maxHeartbeats 2000000 in
theorem both_no_8 (A : Option Addr) (ca : Nat) (l : List Int) (hf : fitL 8 l = false) (w : World) (hA : Ints w w.heap.size A l) :
    Calls Try.prog 45 #[.slice A l.length ca, .int .i64 8, .func (.func 40) #[] #[]] w fun e w' => ∃ A' c, e = .returned (.slice A' 0 c) ∧ OwnI w' w.heap.size A' c [] ∧ Below w.heap.size w w' := by
  have hnm := hA.1
  have B0 := Lib.hid (below_new w (.cells #[.func (.func 40) #[] #[]] 32))
  have O0 : Hid (OwnI (w.alloc (.cells #[.func (.func 40) #[] #[]] 32)) w.heap.size none 0 []) := Lib.hid (World.ownsRow_nil _ w.heap.size 3 1)
  have EL := Lib.hid (impl_elements_any A ca l _ ((hA.below B0.out (Nat.le_refl _)).mono B0.out.size))
  by_cases hl : l.length = 64
  · have hall : l.all fitE = false := by
      unfold fitL at hf
      rw [decide_eq_true (by omega), Bool.and_true] at hf
      exact hf
    rw [hall, hl] at EL
    rw [hl]
    clear hA hf hl hall hnm
    go_enter Try.func45, Try.ntmps45
    go_wp2_with fail
    refine EL.out.mono ?_
    rintro e w1 ⟨rfl, hw⟩
    subst hw
    go_wp2
    go_ret
    exact ⟨_, _, rfl, O0.out, B0.out⟩
  · obtain ⟨n, hn⟩ : ∃ n, n = l.length := ⟨_, rfl⟩
    rw [← hn] at hl hnm ⊢
    have hq : ((n : Int) != 64) = true := by rw [bne_iff_ne]; omega
    clear hA hf hn hl EL
    go_enter Try.func45, Try.ntmps45
    go_wp2
    go_ret
    exact ⟨_, _, rfl, O0.out, B0.out⟩
theorem chunk_stops_8 (n : Nat) (hn : 1 ≤ n) (Bs Bn b cap : Nat) (hcap : 64 ≤ cap) (hcm : cap ≤ 9223372036854775807) (w : World) (hs : Bs < w.heap.size) (hb : Bn < w.heap.size)
    (hBs : w.cell? ⟨Bs, 0, none⟩ = some (.slice (some ⟨b, 0, none⟩) 64 cap)) (hBn : w.cell? ⟨Bn, 0, none⟩ = some (.int .i64 8)) :
    SeqStopsK Fence.wide n Try.prog 66 #[.pointer (some ⟨Bs, 0, none⟩), .pointer (some ⟨Bn, 0, none⟩)] (fun x : Fin 8 => #[.slice (some ⟨b, x.1 * 8, none⟩) 8 8]) (KpB Bs Bn) (fun xs => xs = List.finRange 8) (fun _ => True) 8 w := fun l J Jx W hW hJ hJx hY h0 =>
  chunk1_8 n hn l Bs Bn b cap hcap hcm J Jx (fun pre W1 h => hJ pre W1 W1.drew none h (part_drew W1 none) (fun r e => by cases e)) hY W ((hW.cell (p := ⟨Bs, 0, none⟩) hs).trans hBs) ((hW.cell (p := ⟨Bn, 0, none⟩) hb).trans hBn) h0

set_option maxRecDepth 100000 in
set_option maxHeartbeats 4000000 in
theorem both_yes_8 (A : Option Addr) (ca : Nat) (l : List Int) (hf : fitL 8 l = true) (w : World) (hA : Ints w w.heap.size A l) :
    Calls Try.prog 45 #[.slice A 64 ca, .int .i64 8, .func (.func 40) #[] #[]] w fun e w' => ∃ A' c, e = .returned (.slice A' 64 c) ∧ OwnI w' w.heap.size A' c (xfR 8 true l) ∧ Below w.heap.size w w' := by
  have hl : l.length = 64 := fitL_len hf
  have hall : l.all fitE = true := by
    unfold fitL at hf
    simp only [Bool.and_eq_true] at hf
    exact hf.1
  have hb0 := below_new w (.cells #[.func (.func 40) #[] #[]] 32)
  have hA0 := (hA.below hb0 (Nat.le_refl _)).mono hb0.size
  have EL := Lib.hid (impl_elements_any A ca l _ hA0)
  rw [hall, hl] at EL
  have B0 := Lib.hid hb0; have A0 := Lib.hid hA0
  have CO := Lib.hid @impl_columns_64; have CH := Lib.hid @chunk_8
  refine (callsIn_wide (n := 6)).1 ?_
  refine callsIn_of_wp_marks Try.func45 rfl trivial ?_ rfl
  simp only [Try.ntmps45, List.size_toArray, List.length_cons, List.length_nil, Nat.reduceAdd, Nat.reduceSub, Array.replicate_succ, Array.replicate_zero, List.push_toArray, List.append_toArray, List.nil_append, List.cons_append]
  gi_wp2_with fail
  refine ⟨trivial, (callsIn_wide.2 EL.out).mono ?_⟩
  rintro e w1 ⟨rfl, hw⟩
  subst hw
  gi_wp2
  have hel := fitL_at hf
  have q1 := colL_len 8 l
  have q2 := foL_all (n := 8) (by decide) q1 (fun i hi => by have := cols_bound (n := 8) (B := 1000000000) hel i hi; omega)
  have q3 := rows_bound (n := 8) (by decide) (B := 1000000000) (by decide) (cols_bound (n := 8) (B := 1000000000) hel)
  have q4 := colL_len 8 (rowsL 8 (colL 8 l))
  have q5 := foL_all (n := 8) (by decide) q4 (fun i hi => by have := cols_bound (n := 8) (B := 16 * 1000000000) q3 i hi; omega)
  have q6 := rowsL_len 8 (colL 8 l)
  have q7 := fast_fit' hf
  have E1 := Lib.hid q1; have E2 := Lib.hid q2; have E4 := Lib.hid q4; have E5 := Lib.hid q5; have E6 := Lib.hid q6; have E7 := Lib.hid q7; have HL := Lib.hid hl
  have LP := Lib.hid @lift_eight_part
  clear q1 q2 q3 q4 q5 q6 q7 hel hall hf hA hb0 hA0 EL hl
  obtain ⟨lq, hlq⟩ : ∃ w0, w0 = w.alloc (.cells #[.func (.func 40) #[] #[]] 32) := ⟨_, rfl⟩
  have hz : lq.heap.size = w.heap.size + 1 := by rw [hlq]; simp
  have hc0 : lq.cell? ⟨w.heap.size, 0, none⟩ = some (.func (.func 40) #[] #[]) := by rw [hlq]; exact (new_cell w _ _)
  have C0 := Lib.hid hc0; have Z0 : Hid (w.heap.size < lq.heap.size) := Lib.hid (by omega)
  rw [← hlq] at A0 B0 ⊢
  clear hlq hc0 hz
  refine wpIn_loop_rounds 3 ?_
  rw [roundsIn_succ]
  gi_wp2_with fail
  refine ⟨trivial, (callsIn_wide.2 (CO.out A ca l HL.out _ A0.out)).mono ?_⟩
  rintro e u1 ⟨G1, c1, rfl, ho, hb⟩
  unfold OwnI at ho
  rw [E1.out] at ho
  obtain ⟨g1, rfl, hbg, hgs, hcn, hcm⟩ := own_where' ho E1.out (by decide)
  unfold maxLen at hcm
  have GB1 := Lib.hid hbg; have GS1 := Lib.hid hgs; have CN1 := Lib.hid hcn; have CM1 := Lib.hid hcm
  have OU1 := Lib.hid ho; have BU1 := Lib.hid (below_up B0.out hb B0.out.size); have CU1 := Lib.hid ((hb.cell (p := ⟨w.heap.size, 0, none⟩) (by have := Z0.out; simp; omega)).trans C0.out)
  have ZU1 : Hid (lq.heap.size ≤ u1.heap.size) := Lib.hid hb.size
  clear ho hb hbg hgs hcn hcm
  gi_wp2_with fail
  refine ⟨trivial, (callsIn_wide.2 (CH.out _ c1 u1)).mono ?_⟩
  rintro e v1 ⟨rfl, hv⟩
  have hs1 : v1.cell? ⟨u1.heap.size, 0, none⟩ = some (.slice (some ⟨g1, 0, none⟩) 64 c1) := by rw [hv]; exact alloc_cell _ (new_cell _ _ _)
  have hs2 : v1.cell? ⟨u1.heap.size + 1, 0, none⟩ = some (.int .i64 8) := by rw [hv]; have := new_cell (u1.alloc (.cells #[.slice (some ⟨g1, 0, none⟩) 64 c1] 22)) (.int .i64 8) 3; rw [World.size_alloc] at this; exact this
  have hs3 : v1.heap.size = u1.heap.size + 2 := by rw [hv]; simp
  have hs4 : Below u1.heap.size u1 v1 := by rw [hv]; exact ((Below.refl _ u1).alloc (Nat.le_refl _) _).alloc (by simp) _
  have hs5 : v1.ownsRow lq.heap.size 3 1 (.slice (some ⟨g1, 0, none⟩) 64 c1) 64 (ivs (colL 8 l)) := by rw [hv]; exact (OU1.out.alloc _).alloc _
  have S1 := Lib.hid hs1; have S2 := Lib.hid hs2; have S3 := Lib.hid hs3; have S4 := Lib.hid hs4; have S5 := Lib.hid hs5
  clear hv hs1 hs2 hs3 hs4 hs5
  gi_wp2
  have y1 := S3.out; have y2 := GS1.out; have y3 := GB1.out; have y4 := ZU1.out; have y5 := Z0.out
  refine wpIn_rangeFunc_ownG rfl (by omega) (gf := 66) (lb := #[.pointer (some ⟨u1.heap.size, 0, none⟩), .pointer (some ⟨u1.heap.size + 1, 0, none⟩)]) rfl trivial (enters_of Try.func66 (by kernel_rfl) rfl)
    (chunk_stops_8 _ (by omega) u1.heap.size (u1.heap.size + 1) g1 c1 CN1.out CM1.out v1 (by omega) (by omega) S1.out S2.out) kpb_t (fun W l o o' hl _ _ _ => kpb_b (n := v1.heap.size) (by omega) (by omega) W l o' hl) (Below.refl _ _) (fun _ => rfl)
    (fun pre W => (W.ownsRow lq.heap.size 3 1 (.slice (some ⟨g1, 0, none⟩) 64 c1) 64 (ivs (foL 8 (colL 8 l) pre)) ∧ W.cell? ⟨w.heap.size, 0, none⟩ = some (.func (.func 40) #[] #[]) ∧ v1.heap.size ≤ W.heap.size) ∧ Below w.heap.size w W)
    (fun _ _ _ => False)
    (OwnFrom.and (fun s A' B' row hs hg hr => ⟨hs.1.kept hg (.inr fun e => by have h9 : _ ≤ g1 := (hr _ e.symm).1; omega), Go.cell_kept hs.2.1 hg (fun r e => (hr r e).2), Nat.le_trans hs.2.2 hg.size⟩) (ownFrom_below (Nat.le_refl _) (by omega)))
    (fun _ _ _ _ _ hs _ _ => hs)
    ⟨⟨S5.out, (S4.out.cell (p := ⟨w.heap.size, 0, none⟩) (by simp; omega)).trans CU1.out, Nat.le_refl _⟩, below_up BU1.out S4.out BU1.out.size⟩
    ?a1 ?assign ?body ?done ?stop
  case assign =>
    intro l x W K hK
    gi_wp2
    exact hK
  case body =>
    rintro ln pre x W ⟨⟨hown, hbox, hsz⟩, hB⟩ hlen
    have hml := foL_len pre _ E1.out
    have hrl := rowV_len hml x.2
    have hft := row_fits x.2
    have hP : PartI W lq.heap.size g1 64 c1 (foL 8 (colL 8 l) pre) (x.1 * 8) (rowV 8 (foL 8 (colL 8 l) pre) x.1) := by
      unfold PartI rowV
      rw [putP_same _ _ (by omega)]
      exact hown
    have LX := Lib.hid (LP.out _ _ _ _ (x.1 * 8) 8 _ _ hrl hml (by omega) (by decide) W hP)
    have HSN := Lib.hid (foL_snoc 8 (colL 8 l) pre x)
    have HBW := Lib.hid hB
    clear hml hrl hft hP hown hlen hB
    gi_wp2_with fail
    refine ⟨trivial, (CallsIn.inRound ln (callsIn_wide.2 LX.out)).mono ?_⟩
    rintro e W3 ⟨rfl, hP3, hg3⟩
    gi_wp2
    refine ⟨KeepsFrom.of_grownBy hg3 (fun j e => by cases e; omega), ⟨World.cell?_of_block (hg3.block _ (by show u1.heap.size < _; omega) (by simp; omega)), World.cell?_of_block (hg3.block _ (by show u1.heap.size + 1 < _; omega) (by simp; omega))⟩, ⟨by rw [HSN.out]; exact hP3, ?_, Nat.le_trans hsz hg3.size⟩, HBW.out.trans (part_below hg3 (by omega) HBW.out.size)⟩
    · exact (World.cell?_of_block (hg3.block _ (by show w.heap.size < _; omega) (by simp; omega))).trans hbox
  case stop =>
    rintro D c pre W _ _ h _
    exact h.elim
  case done =>
    rintro D1 xs x1 hD rfl ⟨⟨hown, hbox, hsz⟩, hB⟩ hK
    rw [E2.out] at hown
    have I1 : Hid (Ints x1 x1.heap.size (some ⟨g1, 0, none⟩) (rowsL 8 (colL 8 l))) := Lib.hid (OwnI.ints (own_back hown E6.out) (by rw [E6.out]; decide))
    have B1 := Lib.hid hB; have C1 := Lib.hid hbox; have Z1 : Hid (w.heap.size < x1.heap.size) := Lib.hid (by omega)
    have K1 := Lib.hid hK; have DL : Hid (D1 < x1.heap.size) := Lib.hid (Array.getElem?_eq_some_iff.1 hK).1; have ND : Hid (w.heap.size ≤ D1) := Lib.hid (by omega)
    clear hown hbox hsz hB hK hD y1 y2 y3 y4 y5
    gi_wp2
    rw [roundsIn_succ]
    gi_wp2_with fail
    refine ⟨trivial, (callsIn_wide.2 (CO.out _ _ _ E6.out _ I1.out)).mono ?_⟩
    rintro e u2 ⟨G2, c2, rfl, ho, hb⟩
    unfold OwnI at ho
    rw [E4.out] at ho
    obtain ⟨g2, rfl, hbg, hgs, hcn, hcm⟩ := own_where' ho E4.out (by decide)
    unfold maxLen at hcm
    have GB2 := Lib.hid hbg; have GS2 := Lib.hid hgs; have CN2 := Lib.hid hcn; have CM2 := Lib.hid hcm
    have OU2 := Lib.hid ho; have BU2 := Lib.hid (below_up B1.out hb B1.out.size); have CU2 := Lib.hid ((hb.cell (p := ⟨w.heap.size, 0, none⟩) (by have := Z1.out; simp; omega)).trans C1.out)
    have ZU2 : Hid (x1.heap.size ≤ u2.heap.size) := Lib.hid hb.size
    have DU2 : Hid (u2.heap[D1]? = some (.deferred (some []))) := Lib.hid ((hb.block D1 (Array.getElem?_eq_some_iff.1 K1.out).1).trans K1.out)
    have NE : Hid (D1 < g2) := Lib.hid (by have := DL.out; have := GB2.out; omega)
    clear ho hb hbg hgs hcn hcm
    gi_wp2_with fail
    refine ⟨trivial, (callsIn_wide.2 (CH.out _ c2 u2)).mono ?_⟩
    rintro e v2 ⟨rfl, hv⟩
    have hs1 : v2.cell? ⟨u2.heap.size, 0, none⟩ = some (.slice (some ⟨g2, 0, none⟩) 64 c2) := by rw [hv]; exact alloc_cell _ (new_cell _ _ _)
    have hs2 : v2.cell? ⟨u2.heap.size + 1, 0, none⟩ = some (.int .i64 8) := by rw [hv]; have := new_cell (u2.alloc (.cells #[.slice (some ⟨g2, 0, none⟩) 64 c2] 22)) (.int .i64 8) 3; rw [World.size_alloc] at this; exact this
    have hs3 : v2.heap.size = u2.heap.size + 2 := by rw [hv]; simp
    have hs4 : Below u2.heap.size u2 v2 := by rw [hv]; exact ((Below.refl _ u2).alloc (Nat.le_refl _) _).alloc (by simp) _
    have hs5 : v2.ownsRow x1.heap.size 3 1 (.slice (some ⟨g2, 0, none⟩) 64 c2) 64 (ivs (colL 8 (rowsL 8 (colL 8 l)))) := by rw [hv]; exact (OU2.out.alloc _).alloc _
    have S1 := Lib.hid hs1; have S2 := Lib.hid hs2; have S3 := Lib.hid hs3; have S4 := Lib.hid hs4; have S5 := Lib.hid hs5
    clear hv hs1 hs2 hs3 hs4 hs5
    gi_wp2
    have y1 := S3.out; have y2 := GS2.out; have y3 := GB2.out; have y4 := ZU2.out; have y5 := Z1.out
    refine wpIn_rangeFunc_ownG rfl (by omega) (gf := 66) (lb := #[.pointer (some ⟨u2.heap.size, 0, none⟩), .pointer (some ⟨u2.heap.size + 1, 0, none⟩)]) rfl trivial (enters_of Try.func66 (by kernel_rfl) rfl)
      (chunk_stops_8 _ (by omega) u2.heap.size (u2.heap.size + 1) g2 c2 CN2.out CM2.out v2 (by omega) (by omega) S1.out S2.out) kpb_t (fun W l o o' hl _ _ _ => kpb_b (n := v2.heap.size) (by omega) (by omega) W l o' hl) (Below.refl _ _) (fun _ => rfl)
      (fun pre W => (W.ownsRow x1.heap.size 3 1 (.slice (some ⟨g2, 0, none⟩) 64 c2) 64 (ivs (foL 8 (colL 8 (rowsL 8 (colL 8 l))) pre)) ∧ W.cell? ⟨w.heap.size, 0, none⟩ = some (.func (.func 40) #[] #[]) ∧ v2.heap.size ≤ W.heap.size ∧ W.heap[D1]? = some (.deferred (some []))) ∧ Below w.heap.size w W)
      (fun _ _ _ => False)
      (OwnFrom.and (fun s A' B' row hs hg hr => ⟨hs.1.kept hg (.inr fun e => by have h9 : _ ≤ g2 := (hr _ e.symm).1; omega), Go.cell_kept hs.2.1 hg (fun r e => (hr r e).2), Nat.le_trans hs.2.2.1 hg.size, (hg.block D1 (Array.getElem?_eq_some_iff.1 hs.2.2.2).1 (fun e => by have h9 := (hr _ e.symm).1; have := DL.out; omega)).trans hs.2.2.2⟩) (ownFrom_below (Nat.le_refl _) (by omega)))
      (fun _ _ _ _ _ hs _ _ => hs)
      ⟨⟨S5.out, (S4.out.cell (p := ⟨w.heap.size, 0, none⟩) (by simp; omega)).trans CU2.out, Nat.le_refl _, (S4.out.block D1 (Array.getElem?_eq_some_iff.1 DU2.out).1).trans DU2.out⟩, below_up BU2.out S4.out BU2.out.size⟩
      ?a2 ?assign ?body ?done ?stop
    case assign =>
      intro l x W K hK
      gi_wp2
      exact hK
    case body =>
      rintro ln pre x W ⟨⟨hown, hbox, hsz, hdd⟩, hB⟩ hlen
      have hml := foL_len pre _ E4.out
      have hrl := rowV_len hml x.2
      have hft := row_fits x.2
      have hP : PartI W x1.heap.size g2 64 c2 (foL 8 (colL 8 (rowsL 8 (colL 8 l))) pre) (x.1 * 8) (rowV 8 (foL 8 (colL 8 (rowsL 8 (colL 8 l))) pre) x.1) := by
        unfold PartI rowV
        rw [putP_same _ _ (by omega)]
        exact hown
      have LX := Lib.hid (LP.out _ _ _ _ (x.1 * 8) 8 _ _ hrl hml (by omega) (by decide) W hP)
      have HSN := Lib.hid (foL_snoc 8 (colL 8 (rowsL 8 (colL 8 l))) pre x)
      have HBW := Lib.hid hB
      clear hml hrl hft hP hown hlen hB
      gi_wp2_with fail
      refine ⟨trivial, (CallsIn.inRound ln (callsIn_wide.2 LX.out)).mono ?_⟩
      rintro e W3 ⟨rfl, hP3, hg3⟩
      gi_wp2
      refine ⟨KeepsFrom.of_grownBy hg3 (fun j e => by cases e; omega), ⟨World.cell?_of_block (hg3.block _ (by show u2.heap.size < _; omega) (by simp; omega)), World.cell?_of_block (hg3.block _ (by show u2.heap.size + 1 < _; omega) (by simp; omega))⟩, ⟨by rw [HSN.out]; exact hP3, ?_, Nat.le_trans hsz hg3.size, ?_⟩, HBW.out.trans (part_below hg3 (by omega) HBW.out.size)⟩
      · exact (World.cell?_of_block (hg3.block _ (by show w.heap.size < _; omega) (by simp; omega))).trans hbox
      · exact (hg3.block _ (Array.getElem?_eq_some_iff.1 hdd).1 (by have := NE.out; simp; omega)).trans hdd
    case stop =>
      rintro D c pre W _ _ h _
      exact h.elim
    case done =>
      rintro D2 xs x2 hD rfl ⟨⟨hown, hbox, hsz, hdd⟩, hB⟩ hK
      rw [E5.out] at hown
      have hne : D1 < D2 := by have := DL.out; omega
      rw [E7.out] at hown
      have R1 : Hid ((x2.putObj D2 (.deferred none)).heap[D1]? = some (.deferred (some []))) := Lib.hid ((World.putObj_heap_other (by omega)).trans hdd)
      have o1 := World.ownsRow.kept hown (grownBy_putObj' x2 D2 (.deferred none)) (.inr fun e => by have h9 : g2 = D2 := Option.some.inj e; omega)
      have o2 := World.ownsRow.kept o1 (grownBy_putObj' _ D1 (.deferred none)) (.inr fun e => by have h9 : g2 = D1 := Option.some.inj e; have := NE.out; omega)
      have hxl : (xfR 8 true l).length = 64 := by rw [← E7.out]; exact rowsL_len 8 _
      have O9 := Lib.hid (own_back (own_lower o2 (show w.heap.size ≤ x1.heap.size by have := Z1.out; omega)) hxl)
      have B9 := Lib.hid ((hB.trans (belowK_b (w := w) (Nat.le_refl _) x2 D2 (.deferred (some [])) (.deferred none) (by omega) hK rfl rfl)).trans (belowK_b (w := w) (Nat.le_refl _) _ D1 (.deferred (some [])) (.deferred none) (by have := ND.out; omega) R1.out rfl rfl))
      have K9 := Lib.hid hK
      clear hown hbox hsz hB hK hD o1 o2 hdd y1 y2 y3 y4 y5
      gi_wp2
      rw [roundsIn_succ]
      gi_wp2
      refine ⟨by simp, .inl ⟨_, _, rfl, run_takeDeferred K9.out, by simp, .inl ⟨_, _, rfl, run_takeDeferred R1.out, ?_⟩⟩⟩
      exact ⟨_, results_tmp rfl _ _ _, _, _, rfl, O9.out, B9.out⟩


set_option maxRecDepth 100000 in
set_option maxHeartbeats 1000000 in
theorem both_8 (A : Option Addr) (ca : Nat) (l : List Int) (w : World) (hA : Ints w w.heap.size A l) :
    Calls Try.prog 45 #[.slice A l.length ca, .int .i64 8, .func (.func 40) #[] #[]] w fun e w' => ∃ A' c, e = .returned (.slice A' (xfR 8 true l).length c) ∧ OwnI w' w.heap.size A' c (xfR 8 true l) ∧ Below w.heap.size w w' := by
  cases hf : fitL 8 l with
  | false =>
    rw [xfR_unfit true hf]
    exact both_no_8 A ca l hf w hA
  | true =>
    rw [show (xfR 8 true l).length = 64 by rw [xfR_fit true hf]; exact mulF_len _ _ _, show l.length = 64 from fitL_len hf]
    exact both_yes_8 A ca l hf w hA

set_option maxRecDepth 100000 in
set_option maxHeartbeats 1000000 in
theorem impl_fast8_any (A : Option Addr) (ca : Nat) (l : List Int) (w : World) (hA : Ints w w.heap.size A l) :
    Calls Try.prog 25 #[.slice A l.length ca] w fun e w' => ∃ A' c, e = .returned (.slice A' (xfR 8 true l).length c) ∧ OwnI w' w.heap.size A' c (xfR 8 true l) ∧ Below w.heap.size w w' := by
  have SO := Lib.hid (both_8 A ca l w hA)
  obtain ⟨z, hz⟩ : ∃ z, z = xfR 8 true l := ⟨_, rfl⟩
  rw [← hz] at SO ⊢
  obtain ⟨n, hn⟩ : ∃ n, n = l.length := ⟨_, rfl⟩
  rw [← hn] at SO ⊢
  clear hA hz hn
  go_enter Try.func25, Try.ntmps25
  go_wp2_with fail
  refine SO.out.mono ?_
  rintro e w1 ⟨A1, c1, rfl, ho1, hb1⟩
  have O1 := Lib.hid ho1; have B1 := Lib.hid hb1
  clear ho1 hb1
  go_wp2
  go_ret
  exact ⟨_, _, rfl, O1.out, B1.out⟩
end Go.Proofs.Ytcmijednpnabmaa
