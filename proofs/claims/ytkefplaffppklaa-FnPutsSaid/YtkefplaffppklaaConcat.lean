/-
  Contracts of slices.Grow on nil and of slices.Concat over rows of integers; appending a whole row. Condition: the rows have no more than 4000000 elements together.
-/
import Derived.Test.YtkefplaffppklaaInts
import Derived.Lib.AppendZeros
namespace Go.Proofs.Ytkefplaffppklaa
open Go.RowKit
set_option linter.unusedVariables false

/-- Only a nil row has no place. -/
def Placed (A : Option Addr) (c : Nat) : Prop := A = none → c = 0
theorem OwnI.placed {w : World} {base : Nat} {A : Option Addr} {cap : Nat} {l : List Int} (h : OwnI w base A cap l) : Placed A cap := by
  intro hA
  rcases h.2 with ⟨h1, h2⟩ | ⟨g, cap', cur, h1, _⟩
  · simp only [Value.slice.injEq] at h1
    exact h1.2.2
  · simp only [Value.slice.injEq] at h1
    rw [hA] at h1
    exact absurd h1.1 (by simp)

/-- `append(v, A...)`, the row `v` the call's own. -/
theorem append_ints {P : Program} {w : World} {ops : Array Oper} {rest : List Oper} {o : Oper} {a : Act} {Q : Exit → Act → World → Prop} (hgd : o.guard = none) (s x : Operand) (t : TypeId)
    (ho : o.op = .call { callee := .builtin .append, args := #[s, x], argTypes := #[t, t] })
    (wS : World) (i : TypeInfo) (ht : P.underlying t = some (.slice 3)) (hi : P.info? 3 = some i) (hz : i.zero = some (.int .i64 0))
    (hsize : i.size = 1) (hby : i.bytes = 8)
    (v : Value) (n : Nat) (l : List Int) (hs : a.eval s = v) (hown : w.ownsRow wS.heap.size 3 1 v n (ivs l))
    (A : Option Addr) (m c : Nat) (la : List Int) (hm : m = la.length) (hx : a.eval x = .slice A m c) (g : Nat) (hA : Ints w g A la) (hP : Placed A c)
    (hlen : n + m ≤ 4000000) (hb : Below wS.heap.size wS w)
    (h : ∀ v' w', w'.ownsRow wS.heap.size 3 1 v' (n + m) (ivs (l ++ la)) → Below wS.heap.size wS w' → wpList P ops Q rest (a.put o.dst v') w') :
    wpList P ops Q (o :: rest) a w := by
  subst hm
  cases A with
  | none =>
    obtain rfl : c = 0 := hP rfl
    have hl : la = [] := by
      rcases hA.2 with h | ⟨b, off, h, _⟩
      · exact h
      · exact absurd h (by simp)
    subst hl
    refine wpList_plain hgd fun K hK => ?_
    have hrun := run_append_owned_none (P := P) w wS.heap.size t o.type 3 i 1 ht hi v n (ivs l) hown
    unfold Oper.wp
    simp [execOp, ho, resolve, invoke, builtin, hs, hx, hrun, Result.andThen]
    exact hK _ _ (h v w (by simpa using hown) hb)
  | some ad =>
    have hcells : ∀ j u, (ivs la)[j]? = some u → w.cell? (ad.add j) = some u := by
      intro j u hj
      have hj2 : j < la.length := by
        have := (List.getElem?_eq_some_iff.1 hj).1
        rwa [ivs_len] at this
      obtain ⟨b, off, hb1, hb2, hb3⟩ := hA.at j hj2
      simp only [Option.some.injEq] at hb1
      subst hb1
      rw [Addr.add_lit, hb3 j hj2, ← hj, ivs_at la j hj2]
    refine wpList_append_own w hgd s x t ho wS.heap.size 3 i (.int .i64 0) 1 8 ht hi hz hsize hby rfl (by decide) v n (ivs l) hs hown ad la.length c (ivs la) hx (by rw [ivs_len, Nat.mul_one]) hcells ?_ (by unfold maxLen; omega) (by omega) hb.size ?_
    · intro u hu
      simp only [ivs, List.mem_map] at hu
      obtain ⟨y, _, rfl⟩ := hu
      rfl
    · intro v' w' hown' hg _
      refine h v' w' (by rw [ivs_append]; exact hown') (hb.grown hg hb.size fun k hk => ?_)
      exact (hown.lt k hk).1

set_option maxRecDepth 100000 in
set_option maxHeartbeats 400000 in
/-- Growing nil: room for n elements. -/
theorem grow_any (n : Nat) (hn : n ≤ 4000000) (w : World) :
    Calls Try.prog 45 #[.slice none 0 0, .int .i64 n] w fun e w' => ∃ A cap, e = .returned (.slice A 0 cap) ∧ w'.ownsRow w.heap.size 3 1 (.slice A 0 cap) 0 (ivs []) ∧ Below w.heap.size w w' := by
  obtain ⟨i0, hi, hz0, hz1, hz2⟩ := info_parts Try.iinfo
  have hneg : decide ((n : Int) < 0) = false := by simp
  by_cases h0 : n = 0
  · subst h0
    go_enter Try.func45, Try.ntmps45
    go_wp2
    go_ret
    exact ⟨_, _, rfl, World.ownsRow_nil w w.heap.size 3 1, Below.refl _ _⟩
  · have hpos : decide ((0 : Int) < (n : Int)) = true := by simp; omega
    have hn1 : 1 ≤ n := by omega
    clear h0
    have hrun := Lib.run_append_nil_zeros (P := Try.prog) w 24 3 24 3 i0 (.int .i64 0) .i64 .i64 Try.underlying24 Try.underlying3 hi hz0 n hn1 (by rw [hz1]; decide) (by omega) (by rw [hz2]; omega)
    obtain ⟨cap, hcap⟩ : ∃ cap, cap = grownCap w n 0 3 := ⟨_, rfl⟩
    have hc1 := grownCap_ge w n 0 3
    have hc2 := grownCap_le_maxLen w n 0 3 (by unfold maxLen; omega)
    rw [← hcap] at hrun hc1 hc2
    have hcs : (Builtin.zeroCells (Value.int .i64 0).cells n ++ Builtin.zeroCells (Value.int .i64 0).cells (cap - n)).size = cap * 1 := by
      rw [Array.size_append, size_zeroCells, size_zeroCells]
      show n * 1 + (cap - n) * 1 = cap * 1
      omega
    obtain ⟨cs, hcc⟩ : ∃ cs, cs = Builtin.zeroCells (Value.int .i64 0).cells n ++ Builtin.zeroCells (Value.int .i64 0).cells (cap - n) := ⟨_, rfl⟩
    rw [← hcc] at hrun hcs
    have hown : (w.drew.alloc (.cells cs 3)).ownsRow w.heap.size 3 1 (.slice (some ⟨w.heap.size, 0, none⟩) 0 cap) 0 (ivs []) :=
      ⟨rfl, .inr ⟨w.heap.size, cap, cs, rfl, Nat.le_refl _, heap_alloc_new w.drew _, Nat.zero_le _, hc2, hcs, rfl⟩⟩
    have hbel : Below w.heap.size w (w.drew.alloc (.cells cs 3)) := (Below.refl _ _).drew.alloc (Nat.le_refl _) _
    have HO := Lib.hid hown
    have HB := Lib.hid hbel
    clear hown hbel hcs hcc hcap
    go_enter Try.func45, Try.ntmps45
    go_wp2_with (at_builtin; refine Lib.wpList_append_run _ rfl (.tmp 20) (.tmp 21) _ _ rfl _ _ rfl rfl _ _ hrun ?_)
    go_wp2
    go_ret
    exact ⟨_, _, rfl, HO.out, HB.out⟩

/-- The rows one behind the other. -/
def catN (F : Nat → List Int) : Nat → List Int
  | 0 => []
  | k + 1 => catN F k ++ F k
theorem catN_len (F : Nat → List Int) (k : Nat) : (catN F (k + 1)).length = (catN F k).length + (F k).length := by rw [catN, List.length_append]
theorem catN_mono (F : Nat → List Int) (j k : Nat) (h : j ≤ k) : (catN F j).length ≤ (catN F k).length := by
  induction k with
  | zero => obtain rfl : j = 0 := by omega
            exact Nat.le_refl _
  | succ k ih =>
    by_cases hj : j = k + 1
    · subst hj; exact Nat.le_refl _
    · rw [catN_len]; have := ih (by omega); omega

set_option maxRecDepth 100000 in
set_option maxHeartbeats 1000000 in
theorem concat_any (k : Nat) (hk : k ≤ 1000) (g : Nat) (FA : Nat → Option Addr) (FL : Nat → List Int) (FC : Nat → Nat) (hlen : (catN FL k).length ≤ 4000000) (cc : Nat) (w : World) (hg : g < w.heap.size)
    (hc : ∀ j, j < k → w.cell? ⟨g, j, none⟩ = some (.slice (FA j) (FL j).length (FC j))) (hI : ∀ j, j < k → Ints w w.heap.size (FA j) (FL j)) (hP : ∀ j, j < k → Placed (FA j) (FC j)) :
    Calls Try.prog 27 #[.slice (some ⟨g, 0, none⟩) k cc] w fun e w' => ∃ A cap, e = .returned (.slice A (catN FL k).length cap) ∧ OwnI w' w.heap.size A cap (catN FL k) ∧ Below w.heap.size w w' := by
  obtain ⟨i0, hi, hz0, hz1, hz2⟩ := info_parts Try.iinfo
  have HC := Lib.hid hc; clear hc
  have HI := Lib.hid hI; clear hI
  have HP := Lib.hid hP; clear hP
  have GA := Lib.hid grow_any
  have HM := Lib.hid (catN_mono FL)
  have HL := Lib.hid (catN_len FL)
  go_enter Try.func27, Try.ntmps27
  go_wp2
  go_loop [3, 5, 11] (fun z x i => ∃ j : Nat, j ≤ k ∧ z = .int .i64 (catN FL j).length ∧ i = .int .i64 j)
    (fun _ _ i => k - (intOf i).toNat)
  case atStart => exact ⟨0, Nat.zero_le _, rfl, rfl⟩
  case round =>
    obtain ⟨j, hj, rfl, rfl⟩ := hrel
    by_cases hlt : j < k
    · have c1 := HC.out j hlt
      have hm1 := HM.out (j + 1) k hlt
      have hm2 := HL.out j
      obtain ⟨m, hm⟩ : ∃ m, m = (FL j).length := ⟨_, rfl⟩
      obtain ⟨t, ht⟩ : ∃ t, t = (catN FL j).length := ⟨_, rfl⟩
      rw [← hm] at hm2 c1
      rw [← ht] at hm2 ⊢
      have HMM := Lib.hid hm2
      have hs : t + m ≤ 4000000 := by omega
      clear hm1 hm2
      have hneg : decide ((t : Int) + (m : Int) < 0) = false := by simp; omega
      go_wp2
      go_round
      case rel => exact ⟨j + 1, by omega, by rw [HMM.out]; go_num, by go_num⟩
      case measure => simp [intOf]; omega
    · obtain rfl : j = k := by omega
      go_wp2_with fail
      refine (GA.out _ (by omega) _).mono ?_
      rintro e w1 ⟨A1, cap1, rfl, ho1, hb1⟩
      have O1 := Lib.hid ho1; clear ho1
      have B1 := Lib.hid hb1; clear hb1
      go_wp2
      go_loopw [6, 8, 27] (fun v x i wr => ∃ t : Nat, t ≤ j ∧ i = .int .i64 t ∧ wr.ownsRow w.heap.size 3 1 v (catN FL t).length (ivs (catN FL t)) ∧ Below w.heap.size w wr)
        (fun _ _ i _ => j - (intOf i).toNat)
      case atStart => exact ⟨0, Nat.zero_le _, rfl, O1.out, B1.out⟩
      case round =>
        obtain ⟨t, ht, rfl, hown, hbel⟩ := hrel
        by_cases hlt2 : t < j
        · have c1 := HC.out t hlt2
          rw [← hbel.cell (p := ⟨g, t, none⟩) hg] at c1
          have hm1 := HM.out (t + 1) j hlt2
          have hm2 := HL.out t
          have IT := Lib.hid ((HI.out t hlt2).below hbel (Nat.le_refl _))
          have PT := Lib.hid (HP.out t hlt2)
          obtain ⟨n, hn⟩ : ∃ n, n = (catN FL t).length := ⟨_, rfl⟩
          have hs : n + (FL t).length ≤ 4000000 := by omega
          have HMM := Lib.hid hm2
          clear hm1 hm2
          rw [← hn] at hown HMM
          have HO := Lib.hid hown; clear hown
          go_wp2_with (at_builtin; refine append_ints rfl (.tmp 31) (.tmp 32) 24 rfl w i0 Try.underlying24 hi hz0 hz1 hz2 _ _ _ rfl HO.out _ _ _ _ rfl rfl _ IT.out PT.out hs hbel ?_; intro v' w' hown' hb')
          go_roundw
          case rel => exact ⟨t + 1, by omega, by go_num, by rw [HMM.out]; exact hown', hb'⟩
          case measure => simp [intOf]; omega
        · obtain rfl : t = j := by omega
          go_wp2
          go_ret
          rcases hown.2 with ⟨rfl, h0⟩ | ⟨g, cap, cur, rfl, _⟩
          · unfold OwnI
            rw [h0] at hown ⊢
            exact ⟨_, _, rfl, hown, hbel⟩
          · exact ⟨_, _, rfl, hown, hbel⟩
end Go.Proofs.Ytkefplaffppklaa
