/-
  Contracts of chapter 1's draws of texts: each returns, its answer depends on the cursor's state alone, and it writes to the cursor and to new memory alone. Condition: the input is no longer than 1048576 bytes.
-/
import Derived.Test.YtpifpemlljeglaaDraw1
import Derived.Test.YtpifpemlljeglaaVar
namespace Go.Proofs.Ytpifpemlljeglaa
open Go.RowKit
set_option linter.unusedVariables false

/-- A sequence out of a step. -/
theorem seq_of {σ : Type} (P : σ → Prop) (R : σ → σ → Prop) (s0 : σ) (h0 : P s0) (step : ∀ s, P s → ∃ s', P s' ∧ R s s') : ∃ f : Nat → σ, f 0 = s0 ∧ (∀ n, P (f n)) ∧ ∀ n, R (f n) (f (n + 1)) := by
  have hs : ∀ s : { s // P s }, ∃ s' : { s // P s }, R s.1 s'.1 := fun s => by
    obtain ⟨s', h1, h2⟩ := step s.1 s.2
    exact ⟨⟨s', h1⟩, h2⟩
  obtain ⟨F, hF⟩ := Classical.axiomOfChoice hs
  refine ⟨fun n => (Nat.rec (motive := fun _ => { s // P s }) ⟨s0, h0⟩ (fun _ s => F s) n).1, rfl, fun n => Subtype.property _, fun n => hF _⟩

/-- `append` of one byte, with what it writes to. -/
theorem append_byte {P : Program} {w : World} (w0 : World) {ops : Array Oper} {rest : List Oper} {o : Oper} {a : Act} {Q : Exit → Act → World → Prop} (hgd : o.guard = none) (s x : Operand) (t : TypeId)
    (ho : o.op = .call { callee := .builtin .append, args := #[s, x], argTypes := #[t, t] })
    (base : Nat) (e : TypeId) (i : TypeInfo) (z : Value) (ht : P.underlying t = some (.slice e)) (hi : P.info? e = some i) (hz : i.zero = some z)
    (hsize : i.size = 1) (hby : i.bytes = 1) (hzs : z.cells.size = 1)
    (v : Value) (n : Nat) (xs : List Value) (hs : a.eval s = v) (hown : w0.ownsRow base e 1 v n xs)
    (u : Value) (hw : w = w0.alloc (.cells #[u] e)) (h1 : u.oneCell' = true) (hx : a.eval x = .slice (some ⟨w0.heap.size, 0, none⟩) 1 1)
    (hbytes : (n + 1) * 1 ≤ 140737488355328) (h63 : n + 1 ≤ maxLen) (hb : base ≤ w0.heap.size)
    (h : ∀ v' w', w'.ownsRow base e 1 v' (n + 1) (xs ++ [u]) → (w0.alloc (.cells #[u] e)).grownBy w' v.ownBlock → wpList P ops Q rest (a.put o.dst v') w') :
    wpList P ops Q (o :: rest) a w := by
  subst hw
  refine wpList_append_own (w0.alloc (.cells #[u] e)) hgd s x t ho base e i z 1 1 ht hi hz hsize hby hzs (by decide) v n xs hs (hown.alloc _)
    ⟨w0.heap.size, 0, none⟩ 1 1 [u] hx rfl ?_ ?_ h63 hbytes (by simp; omega) ?_
  · intro j y hj
    match j, hj with
    | 0, hj =>
      simp at hj
      subst hj
      simp [Addr.add, World.cell?_alloc_mark]
  · intro y hy
    simp at hy
    subst hy
    exact h1
  · intro v' w' hown' hg _
    exact h v' w' hown' hg

/-- A row of the call's own lies in another block than one before it. -/
theorem own_far {w : World} {base : Nat} {e : TypeId} {size : Nat} {v : Value} {n : Nat} {xs : List Value} (h : w.ownsRow base e size v n xs) {g : Nat} (hg : g < base) : v.ownBlock = none ∨ v.ownBlock ≠ some g := by
  cases hob : v.ownBlock with
  | none => exact .inl rfl
  | some b => exact .inr (by have := (h.lt b hob).1; simp; omega)

/-- The styles of a text. -/
def sty (S x : Int) : Int := if S = 1 then x % 2 else if S = 2 then 97 + x % 4 else x
theorem sty_range (S x : Int) (h0 : 0 ≤ x) (h1 : x ≤ 255) : 0 ≤ sty S x ∧ sty S x < 256 := by unfold sty; split <;> (try split) <;> omega

theorem Try.dinfoU8 : (Try.prog.info? 5).map (fun i => (i.zero, i.size, i.bytes)) = some (some (.int .u8 0), 1, 1) := by kernel_rfl

set_option maxRecDepth 100000 in
set_option maxHeartbeats 2000000 in
theorem text_det (A : Option Addr) (cap : Nat) (zs : List Int) (i : Nat) (h : Int) (hi : i ≤ zs.length) (most : Nat) (hm : most ≤ 100000) : ∃ (l : List UInt8) (i' : Nat) (h' : Int), l.length ≤ most ∧ i' ≤ zs.length ∧ ∀ (w : World) (g : Nat), Cursor w g A cap zs i h →
    Calls Try.prog 49 #[.pointer (some ⟨g, 0, none⟩), .int .i64 most] w fun e w' => e = .returned (.string (bs l)) ∧ Cursor w' g A cap zs i' h' ∧ w.grownBy w' (some g) := by
  obtain ⟨S, i1, h1, a1, b1, _, l1, C1⟩ := below_det A cap zs i h hi 4
  obtain ⟨N, i2, h2, a2, b2, _, l2, C2⟩ := below_det A cap zs i1 h1 l1 ((most : Int) + 1)
  have b2 := b2 (by omega)
  obtain ⟨N, rfl⟩ := Int.eq_ofNat_of_zero_le a2
  obtain ⟨f, f0, fP, fR⟩ := seq_of (σ := List UInt8 × Nat × Int) (fun s => s.2.1 ≤ zs.length) (fun s s' => ∃ x : Int, 0 ≤ x ∧ x ≤ 255 ∧ s'.1 = s.1 ++ [UInt8.ofNat (sty S x).toNat] ∧ ∀ (w : World) (g : Nat), Cursor w g A cap zs s.2.1 s.2.2 →
    Calls Try.prog 55 #[.pointer (some ⟨g, 0, none⟩)] w fun e w' => e = .returned (.int .i64 x) ∧ Cursor w' g A cap zs s'.2.1 s'.2.2 ∧ w.grownBy w' (some g)) ([], i2, h2) l2 (fun s hs => by
      obtain ⟨x, i', h', e0, e1, e2, C⟩ := byte_det A cap zs s.2.1 s.2.2 hs
      exact ⟨(s.1 ++ [UInt8.ofNat (sty S x).toNat], i', h'), e2, x, e0, e1, rfl, C⟩)
  have flen : ∀ t, (f t).1.length = t := by
    intro t
    induction t with
    | zero => rw [f0]; rfl
    | succ t ih =>
      obtain ⟨x, _, _, hx, _⟩ := fR t
      rw [hx, List.length_append, ih]
      rfl
  refine ⟨(f N).1, (f N).2.1, (f N).2.2, by rw [flen]; omega, fP N, fun w g hC => ?_⟩
  have HC := Lib.hid hC
  have hgw := hC.lt
  have HC1 := Lib.hid C1
  have HC2 := Lib.hid C2
  have HF0 := Lib.hid f0
  have HFR := Lib.hid fR
  have HFL := Lib.hid flen
  clear hC C1 C2 f0 fR flen fP hi l1 l2 b1
  obtain ⟨j0, hi0, hz0, hz1, hz2⟩ := info_parts Try.dinfoU8
  go_enter Try.func49, Try.ntmps49
  go_wp2_with fail
  refine (HC1.out _ _ (HC.out.alloc _)).mono ?_
  rintro e w1 ⟨rfl, hC1, hg1⟩
  have G1 := Lib.hid hC1; clear hC1
  go_wp2_with fail
  refine (HC2.out _ _ G1.out).mono ?_
  rintro e w2 ⟨rfl, hC2, hg2⟩
  have G2 := Lib.hid hC2; clear hC2
  have hown0 : w2.ownsRow w.heap.size 5 1 (.slice (some ⟨w.heap.size, 0, none⟩) 0 0) 0 (bvs []) := by
    have h0 := own_lit (E := 5) w w.heap.size [] (Nat.le_refl _) (by simp)
    have hne : (Value.slice (some ⟨w.heap.size, 0, none⟩) 0 0).ownBlock ≠ some g := by simp [Value.ownBlock]; omega
    exact (h0.kept hg1 (.inr hne)).kept hg2 (.inr hne)
  have hgr2 : w.grownBy w2 (some g) := ((World.grownBy_alloc w _ _).trans hg1).trans hg2
  clear hg1 hg2
  go_wp2
  go_loopw [5, 7, 8] (fun v n b wr => ∃ t : Nat, t ≤ N ∧ n = .int .i64 ((N : Int) - (t : Int)) ∧ wr.ownsRow w.heap.size 5 1 v t (bvs (f t).1) ∧ Cursor wr g A cap zs (f t).2.1 (f t).2.2 ∧ w.grownBy wr (some g))
    (fun _ n _ _ => (intOf n).toNat)
  case atStart => exact ⟨0, Nat.zero_le _, by simp, by rw [HF0.out]; exact hown0, by rw [HF0.out]; exact G2.out, hgr2⟩
  case round =>
    obtain ⟨t, ht, rfl, hown, hCr, hgr⟩ := hrel
    have HCr := Lib.hid hCr; clear hCr
    have hgsz := hgr.size
    by_cases hlt : t < N
    · obtain ⟨x, x0, x9, hx, hcall⟩ := HFR.out t
      have HX := Lib.hid hx; clear hx
      have HCL := Lib.hid hcall; clear hcall
      have hpos : 0 < (N : Int) - (t : Int) := by omega
      obtain ⟨sr0, sr1⟩ := sty_range S x x0 x9
      by_cases hS1 : S = 1
      · have q1 : (S == 1) = true := by rw [beq_iff_eq]; exact hS1
        have q2 : (S == 2) = false := by rw [beq_eq_false_iff_ne]; omega
        have HS := Lib.hid hS1; clear hS1
        go_wp2_with fail
        refine (HCL.out _ _ HCr.out).mono ?_
        rintro e w1 ⟨rfl, hC1, hg1⟩
        have G1 := Lib.hid hC1; clear hC1
        have hown1 := hown.kept hg1 (own_far hown hgw)
        have hsz1 : w.heap.size ≤ w1.heap.size := Nat.le_trans hgsz hg1.size
        go_wp2_with (at_builtin; refine append_byte w1 rfl (.tmp 31) (.tmp 34) 22 rfl w.heap.size 5 j0 (.int .u8 0) Try.underlying22 hi0 hz0 hz1 hz2 rfl _ _ _ rfl hown1 _ rfl rfl rfl (by omega) (by unfold maxLen; omega) hsz1 ?_; intro v' w' hown' hg')
        go_roundw
        case rel =>
          refine ⟨t + 1, by omega, by go_num, ?_, ?_, ?_⟩
          · rw [HX.out]
            exact own_snoc hown' (sty S x).toNat (by unfold sty; rw [if_pos HS.out]; omega) (by omega)
          · exact (G1.out.alloc _).grown hg' (fun b hb => by have := (hown1.lt b hb).1; omega)
          · exact grown_own (hgr.trans hg1) ((World.grownBy_alloc w1 _ _).trans hg') (fun b hb => (hown1.lt b hb).1)
        case measure => simp [intOf]; omega
      · have q1 : (S == 1) = false := by rw [beq_eq_false_iff_ne]; exact hS1
        have HS := Lib.hid hS1; clear hS1
        by_cases hS2 : S = 2
        · have q2 : (S == 2) = true := by rw [beq_iff_eq]; exact hS2
          have HS2 := Lib.hid hS2; clear hS2
          go_wp2_with fail
          refine (HCL.out _ _ HCr.out).mono ?_
          rintro e w1 ⟨rfl, hC1, hg1⟩
          have G1 := Lib.hid hC1; clear hC1
          have hown1 := hown.kept hg1 (own_far hown hgw)
          have hsz1 : w.heap.size ≤ w1.heap.size := Nat.le_trans hgsz hg1.size
          go_wp2_with (at_builtin; refine append_byte w1 rfl (.tmp 31) (.tmp 34) 22 rfl w.heap.size 5 j0 (.int .u8 0) Try.underlying22 hi0 hz0 hz1 hz2 rfl _ _ _ rfl hown1 _ rfl rfl rfl (by omega) (by unfold maxLen; omega) hsz1 ?_; intro v' w' hown' hg')
          go_roundw
          case rel =>
            refine ⟨t + 1, by omega, by go_num, ?_, ?_, ?_⟩
            · rw [HX.out]
              exact own_snoc hown' (sty S x).toNat (by unfold sty; rw [if_neg HS.out, if_pos HS2.out]; omega) (by omega)
            · exact (G1.out.alloc _).grown hg' (fun b hb => by have := (hown1.lt b hb).1; omega)
            · exact grown_own (hgr.trans hg1) ((World.grownBy_alloc w1 _ _).trans hg') (fun b hb => (hown1.lt b hb).1)
          case measure => simp [intOf]; omega
        · have q2 : (S == 2) = false := by rw [beq_eq_false_iff_ne]; exact hS2
          have HS2 := Lib.hid hS2; clear hS2
          go_wp2_with fail
          refine (HCL.out _ _ HCr.out).mono ?_
          rintro e w1 ⟨rfl, hC1, hg1⟩
          have G1 := Lib.hid hC1; clear hC1
          have hown1 := hown.kept hg1 (own_far hown hgw)
          have hsz1 : w.heap.size ≤ w1.heap.size := Nat.le_trans hgsz hg1.size
          go_wp2_with (at_builtin; refine append_byte w1 rfl (.tmp 31) (.tmp 34) 22 rfl w.heap.size 5 j0 (.int .u8 0) Try.underlying22 hi0 hz0 hz1 hz2 rfl _ _ _ rfl hown1 _ rfl rfl rfl (by omega) (by unfold maxLen; omega) hsz1 ?_; intro v' w' hown' hg')
          go_roundw
          case rel =>
            refine ⟨t + 1, by omega, by go_num, ?_, ?_, ?_⟩
            · rw [HX.out]
              exact own_snoc hown' (sty S x).toNat (by unfold sty; rw [if_neg HS.out, if_neg HS2.out]; omega) (by omega)
            · exact (G1.out.alloc _).grown hg' (fun b hb => by have := (hown1.lt b hb).1; omega)
            · exact grown_own (hgr.trans hg1) ((World.grownBy_alloc w1 _ _).trans hg') (fun b hb => (hown1.lt b hb).1)
          case measure => simp [intOf]; omega
    · obtain rfl : t = N := by omega
      have hcv := conv_own Try.underlying22 Try.underlying5 Try.underlying9 hown
      have hpos : ¬ 0 < (t : Int) - (t : Int) := by omega
      go_wp2
      go_ret
      exact ⟨rfl, HCr.out, hgr⟩
end Go.Proofs.Ytpifpemlljeglaa
