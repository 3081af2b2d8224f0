/-
  Chapter 18: what NbAt answers, and the contract of the model's own.
-/
import Derived.Test.YtemfiglflbfocaaFrB
import Derived.Test.YtemfiglflbfocaaNbB
import Derived.Test.YtemfiglflbfocaaScanC
namespace Go.Proofs.Ytemfiglflbfocaa
open Go.RowKit
set_option linter.unusedVariables false

/-- What NbAt answers within a frame: the left, the top (number by number), the corner. -/
def leF (l : List Int) (a x y i : Nat) : Int := if 0 < x then l.getD ((y + i) * a + x - 1) 0 else 128
def leL (l : List Int) (a x y n : Nat) : List Int := (List.range n).map (leF l a x y)
def tpV (l : List Int) (a x y n : Nat) (p : List Int) (i : Nat) : Int := if y = 0 then 128 else if i < n ∨ (y % 8 = 0 ∧ x + i < a) then l.getD ((y - 1) * a + x + i) 0 else p.getD (i - 1) 0
def tpL (l : List Int) (a x y n : Nat) : Nat → List Int
  | 0 => []
  | i + 1 => tpL l a x y n i ++ [tpV l a x y n (tpL l a x y n i) i]
def coV (l : List Int) (a x y : Nat) : Int := if 0 < x ∧ 0 < y then l.getD ((y - 1) * a + x - 1) 0 else 128
theorem leL_len (l : List Int) (a x y n : Nat) : (leL l a x y n).length = n := by simp [leL]
theorem leL_next (l : List Int) (a x y n : Nat) : leL l a x y (n + 1) = leL l a x y n ++ [leF l a x y n] := by simp [leL, List.range_succ]
theorem tpL_len (l : List Int) (a x y n : Nat) : ∀ i, (tpL l a x y n i).length = i
  | 0 => rfl
  | i + 1 => by rw [tpL, List.length_append, tpL_len l a x y n i]; rfl
/-- Two rows of one's own in blocks of their own. -/
def NbTwo (w : World) (base : Nat) (A : Option Addr) (cA : Nat) (B : Option Addr) (cB : Nat) (t l : List Int) : Prop := OwnI w base A cA t ∧ OwnI w base B cB l ∧ ∀ k, (Value.slice A t.length cA).ownBlock = some k → (Value.slice B l.length cB).ownBlock = some k → False
theorem grow_apart {v v' u : Value} {N : Nat} (h : ∀ k, v.ownBlock = some k → u.ownBlock = some k → False) (hv : v'.ownBlock = v.ownBlock ∨ v'.ownBlock = some N) (hu : ∀ k, u.ownBlock = some k → k < N) : ∀ k, v'.ownBlock = some k → u.ownBlock = some k → False := by
  intro k h1 h2
  rcases hv with e | e
  · exact h k (e ▸ h1) h2
  · rw [e] at h1
    have := hu k h2
    injection h1 with h1
    omega
theorem apart_ne {v u : Value} (h : ∀ k, v.ownBlock = some k → u.ownBlock = some k → False) : u.ownBlock = none ∨ u.ownBlock ≠ v.ownBlock := by
  cases hu : u.ownBlock with
  | none => exact .inl rfl
  | some k => exact .inr fun e => h k e.symm hu
theorem own_back5 {w : World} {base : Nat} {A : Option Addr} {c n : Nat} {l : List Int} (h : w.ownsRow base 3 1 (.slice A n c) n (ivs l)) (hl : l.length = n) : OwnI w base A c l := by
  subst hl
  exact h
theorem own_form5 {w : World} {base : Nat} {e : TypeId} {size : Nat} {v : Value} {n : Nat} {xs : List Value} (h : w.ownsRow base e size v n xs) : ∃ A c, v = .slice A n c := by
  rcases h.2 with ⟨h1, h2⟩ | ⟨g, cap, cur, h1, _⟩
  · exact ⟨none, 0, by rw [h1, h2]⟩
  · exact ⟨_, _, h1⟩
theorem own_where5 {w : World} {base : Nat} {A : Option Addr} {n c : Nat} {l : List Int} (h : w.ownsRow base 3 1 (.slice A n c) n (ivs l)) (hn : 0 < n) : ∃ b, A = some ⟨b, 0, none⟩ ∧ base ≤ b ∧ b < w.heap.size ∧ n ≤ c := by
  rcases h.2 with ⟨h1, h2⟩ | ⟨g, cap, cur, h1, hb, hg, hnc, hcm, hcs, htake⟩
  · omega
  · simp only [Value.slice.injEq] at h1
    obtain ⟨rfl, _, rfl⟩ := h1
    exact ⟨g, rfl, hb, (Array.getElem?_eq_some_iff.1 hg).1, hnc⟩

set_option maxRecDepth 100000 in
set_option maxHeartbeats 4000000 in
theorem spec_nbat_4_00 (a b x y : Nat) (pb poff pn ca : Nat) (l : List Int) (hpn : pn = l.length) (hin : inE (a : Int) (b : Int) l (x : Int) (y : Int) 4 = true) (hx : x + 4 ≤ a) (hy : y + 4 ≤ b) (ha : a ≤ 32) (hb : b ≤ 32) (hl : l.length = a * b) (hxp : x = 0) (hyp : y = 0) (w : World) (hpb : pb < w.heap.size) (hc : ∀ j, j < l.length → w.cell? ⟨pb, poff + j, none⟩ = some (.int .i64 (l.getD j 0))) :
    Calls Try.prog 23 #[.agg #[.int .i64 (a : Int), .int .i64 (b : Int), .slice (some ⟨pb, poff, none⟩) pn ca], .int .i64 (x : Int), .int .i64 (y : Int), .int .i64 4] w fun e w' => ∃ A cA B cB, e = .returned (.agg #[.slice A 8 cA, .slice B 4 cB, .int .i64 (coV l a x y), .bool false, .bool false]) ∧ NbTwo w' w.heap.size A cA B cB (tpL l a x y 4 8) (leL l a x y 4) ∧ Below w.heap.size w w' := by
  obtain ⟨i0, hi, hz0, hz1, hz2⟩ := info_parts Try.iinfo
  have hI : Ints w w.heap.size (some ⟨pb, poff, none⟩) l := ⟨by have := Nat.mul_le_mul ha hb; omega, .inr ⟨pb, poff, rfl, hpb, hc⟩⟩
  have IN := Lib.hid fun w h => spec_l18in_any (a : Int) (b : Int) (some ⟨pb, poff, none⟩) ca l (x : Int) (y : Int) 4 w h
  rw [hin] at IN
  rw [← hpn] at IN
  have hab : a * b ≤ 32 * 32 := Nat.mul_le_mul ha hb
  have hb2 := below_two w (.cells #[.int .i64 (a : Int), .int .i64 (b : Int), .slice (some ⟨pb, poff, none⟩) pn ca] 26) (.cells #[.slice none 0 0, .slice none 0 0, .int .i64 0, .bool false, .bool false] 38)
  obtain ⟨g0, g1⟩ := heap_two w (.cells #[.int .i64 (a : Int), .int .i64 (b : Int), .slice (some ⟨pb, poff, none⟩) pn ca] 26) (.cells #[.slice none 0 0, .slice none 0 0, .int .i64 0, .bool false, .bool false] 38)
  have hsz : ((w.alloc (.cells #[.int .i64 (a : Int), .int .i64 (b : Int), .slice (some ⟨pb, poff, none⟩) pn ca] 26)).alloc (.cells #[.slice none 0 0, .slice none 0 0, .int .i64 0, .bool false, .bool false] 38)).heap.size = w.heap.size + 1 + 1 := by simp
  have I2 := Lib.hid ((hI.below hb2 (Nat.le_refl _)).mono hb2.size)
  have HC := Lib.hid hc; have HPN := Lib.hid hpn; have HPB := Lib.hid hpb; have HL := Lib.hid hl; have B2 := Lib.hid hb2; have G0 := Lib.hid g0; have G1 := Lib.hid g1; have SZ := Lib.hid hsz
  have hyb : ∀ k, k < 4 → (y + k) * a + x + 4 ≤ pn ∧ (y + k) * a ≤ 1024 := fun k hk => by
    have h1 : (y + k + 1) * a ≤ b * a := Nat.mul_le_mul_right a (by omega)
    rw [Nat.mul_comm b a] at h1
    rw [Nat.add_mul, Nat.one_mul] at h1
    omega
  have HYB := Lib.hid hyb
  have dx : decide (0 < (x : Int)) = false := by simp; omega
  have dy : decide (0 < (y : Int)) = false := by simp; omega
  rw [show coV l a x y = 128 by rw [coV, if_neg (by omega)]]
  have HXP := Lib.hid hxp; have nx0 : ¬ 0 < x := by omega
  have HYP := Lib.hid hyp; have ny0 : ¬ 0 < y := by omega
  clear hb2 g0 g1 hsz hl hpn hin hI hc hyb hab hxp hyp
  go_enter Try.func23, Try.ntmps23
  go_wp2_with fail
  refine (IN.out _ I2.out).mono ?_
  rintro e w1 ⟨rfl, hb1⟩
  have B3 := Lib.hid (below_up B2.out hb1 B2.out.size)
  have S1 : Hid (w.heap.size + 1 + 1 ≤ w1.heap.size) := Lib.hid (by have := hb1.size; have h2 := SZ.out; omega)
  have k0 := cell_kept G0.out hb1
  have k1 := cell_kept G1.out hb1
  have K0 := Lib.hid k0; have K1 := Lib.hid k1
  obtain ⟨c0, c1, c2⟩ := cells3 k0
  clear hb1 k0 k1
  have nb := below_new w1 (.cells #[.slice none 0 0, .slice none 0 0, .int .i64 128, .bool false, .bool false] 38)
  have hk := heap_alloc_new w1 (.cells #[.slice none 0 0, .slice none 0 0, .int .i64 128, .bool false, .bool false] 38)
  have B4 := Lib.hid (below_up B3.out nb B3.out.size); have HK := Lib.hid hk; have K0a := Lib.hid (cell_kept K0.out nb); have K1a := Lib.hid (cell_kept K1.out nb)
  have ON := Lib.hid (World.ownsRow_nil (w1.alloc (.cells #[.slice none 0 0, .slice none 0 0, .int .i64 128, .bool false, .bool false] 38)) (w1.heap.size + 1) 3 1)
  have SA : Hid (w1.heap.size + 1 ≤ (w1.alloc (.cells #[.slice none 0 0, .slice none 0 0, .int .i64 128, .bool false, .bool false] 38)).heap.size) := Lib.hid (by simp)
  clear nb hk
  go_wp2
  go_loopw [10, 11] (fun i v wr => ∃ (j : Nat) (vL : Value), j ≤ 4 ∧ i = .int .i64 j ∧ wr.heap[w1.heap.size]? = some (.cells #[.slice none 0 0, vL, .int .i64 128, .bool false, .bool false] 38 (0, 0)) ∧ wr.heap[w.heap.size]? = some (.cells #[.int .i64 (a : Int), .int .i64 (b : Int), .slice (some ⟨pb, poff, none⟩) pn ca] 26 (0, 0)) ∧ wr.heap[w.heap.size + 1]? = some (.cells #[.slice none 0 0, .slice none 0 0, .int .i64 0, .bool false, .bool false] 38 (0, 0)) ∧ wr.ownsRow (w1.heap.size + 1) 3 1 vL j (ivs (leL l a x y j)) ∧ w1.heap.size + 1 ≤ wr.heap.size ∧ Below w.heap.size w wr)
    (fun i _ _ => 4 - (intOf i).toNat)
  case atStart => exact ⟨0, .slice none 0 0, Nat.zero_le _, rfl, HK.out, K0a.out, K1a.out, ON.out, SA.out, B4.out⟩
  case round =>
    obtain ⟨j, vL, hj, rfl, hk, hk0, hk1, hown, hsz, hbel⟩ := hrel
    by_cases hlt : j < 4
    · have d1 : decide ((j : Int) < 4) = true := by simp; omega
      have HNX := Lib.hid (leL_next l a x y j)
      have hv : leF l a x y j = 128 := by rw [leF, if_neg (by have := HXP.out; omega)]
      obtain ⟨z, hz⟩ : ∃ z, z = leF l a x y j := ⟨_, rfl⟩
      rw [← hz] at hv HNX
      obtain rfl := hv
      obtain ⟨c0, c1, c2⟩ := cells3 hk0
      obtain ⟨e0, e1, e2, e3, e4⟩ := cells5 hk
      have lt0 := heap_lt hk0; have lt1 := heap_lt hk; have ltp : pb < wr.heap.size := Nat.lt_of_lt_of_le HPB.out hbel.size
      clear hz
      go_wp2_with (at_builtin; refine append_int wr rfl (.tmp 66) (.tmp 68) 24 rfl (w1.heap.size + 1) 3 i0 Try.underlying24 hi hz0 hz1 hz2 _ _ _ rfl hown 128 rfl rfl (by omega) hsz ?_; intro v' w' hown' hgr hvb; obtain ⟨Av, cv, hve⟩ := own_form5 hown'; subst hve; have hgr : World.grownBy wr w' (Value.ownBlock vL) := hgr; have hk' := (hgr.block w1.heap.size lt1 (fun e => by have := (hown.lt _ e.symm).1; omega)).trans hk; obtain ⟨k0, k1, k2, k3, k4⟩ := cells5 hk'; obtain ⟨f0, f1, f2, f3, f4⟩ := frozen5 hk')
      have hk2 := heap_setCell_same w' w1.heap.size 1 _ _ (.slice Av (j + 1) cv) hk'
      have gb := grown_cell w' w1.heap.size 1 (.slice Av (j + 1) cv)
      have hk3 := (gb.block w.heap.size (by have := hgr.size; omega) (fun e => by have := Option.some.inj e; have := S1.out; omega)).trans ((hgr.block w.heap.size lt0 (fun e => by have := (hown.lt _ e.symm).1; have := S1.out; omega)).trans hk0)
      have hk4 := (gb.block (w.heap.size + 1) (by have := hgr.size; have := S1.out; omega) (fun e => by have := Option.some.inj e; have := S1.out; omega)).trans ((hgr.block (w.heap.size + 1) (heap_lt hk1) (fun e => by have := (hown.lt _ e.symm).1; have := S1.out; omega)).trans hk1)
      have hown2 := hown'.kept gb (.inr fun e => by have := (hown'.lt _ e).1; omega)
      have hb5 := (hbel.grown hgr hbel.size fun k hk => by have := (hown.lt k hk).1; have := S1.out; omega).grown gb (Nat.le_trans hbel.size hgr.size) fun k hk => by have := Option.some.inj hk; have := S1.out; omega
      have HK2 := Lib.hid hk2; have HK3 := Lib.hid hk3; have HK4 := Lib.hid hk4; have HO2 := Lib.hid hown2; have HB5 := Lib.hid hb5; have HS5 : Hid (w1.heap.size + 1 ≤ (w'.setCell ⟨w1.heap.size, 1, none⟩ (.slice Av (j + 1) cv)).heap.size) := Lib.hid (by have := hgr.size; rw [size_set]; omega)
      clear hk2 gb hk3 hk4 hown2 hb5 hown' hgr hvb hown hbel hk hk0 hk1 hk'
      go_roundw
      case rel => exact ⟨j + 1, .slice Av (j + 1) cv, by omega, by go_num, HK2.out, HK3.out, HK4.out, by rw [HNX.out]; exact HO2.out, HS5.out, HB5.out⟩
      case measure => simp [intOf]; omega
    · obtain rfl : j = 4 := by omega
      have HKA := Lib.hid hk; have HKB := Lib.hid hk0; have HKC := Lib.hid hk1; have HOL := Lib.hid hown; have HSA := Lib.hid hsz; have HBA := Lib.hid hbel
      have ON2 := Lib.hid (World.ownsRow_nil wr (w1.heap.size + 1) 3 1)
      clear hk hk0 hk1 hown hsz hbel
      go_wp2
      go_loopw [12, 13] (fun i v wr => ∃ (j : Nat) (vT : Value), j ≤ 8 ∧ i = .int .i64 j ∧ wr.heap[w1.heap.size]? = some (.cells #[vT, vL, .int .i64 128, .bool false, .bool false] 38 (0, 0)) ∧ wr.heap[w.heap.size]? = some (.cells #[.int .i64 (a : Int), .int .i64 (b : Int), .slice (some ⟨pb, poff, none⟩) pn ca] 26 (0, 0)) ∧ wr.heap[w.heap.size + 1]? = some (.cells #[.slice none 0 0, .slice none 0 0, .int .i64 0, .bool false, .bool false] 38 (0, 0)) ∧ wr.ownsRow (w1.heap.size + 1) 3 1 vT j (ivs (tpL l a x y 4 j)) ∧ wr.ownsRow (w1.heap.size + 1) 3 1 vL 4 (ivs (leL l a x y 4)) ∧ (∀ k, vT.ownBlock = some k → vL.ownBlock = some k → False) ∧ w1.heap.size + 1 ≤ wr.heap.size ∧ Below w.heap.size w wr)
        (fun i _ _ => 8 - (intOf i).toNat)
      case atStart => exact ⟨0, .slice none 0 0, Nat.zero_le _, rfl, HKA.out, HKB.out, HKC.out, ON2.out, HOL.out, fun k h1 _ => by simp [Value.ownBlock] at h1, HSA.out, HBA.out⟩
      case round =>
        obtain ⟨j, vT, hj2, rfl, hk, hk0, hk1, hownT, hownL, hap, hsz, hbel⟩ := hrel
        have lenT := tpL_len l a x y 4 j
        by_cases hlt : j < 8
        · have d1 : decide ((j : Int) < 8) = true := by simp; omega
          obtain ⟨c0, c1, c2⟩ := cells3 hk0
          obtain ⟨e0, e1, e2, e3, e4⟩ := cells5 hk
          have lt0 := heap_lt hk0; have lt1 := heap_lt hk; have lt2 := heap_lt hk1; have ltp : pb < wr.heap.size := Nat.lt_of_lt_of_le HPB.out hbel.size
          have HNX : Hid (tpL l a x y 4 (j + 1) = tpL l a x y 4 j ++ [128]) := Lib.hid (by rw [tpL, tpV, if_pos HYP.out])
          go_wp2_with (at_builtin; refine append_int wr rfl (.tmp 121) (.tmp 123) 24 rfl (w1.heap.size + 1) 3 i0 Try.underlying24 hi hz0 hz1 hz2 _ _ _ rfl hownT 128 rfl rfl (by omega) hsz ?_; intro v' w' hown' hgr hvb; obtain ⟨Av, cv, hve⟩ := own_form5 hown'; subst hve; have hgr : World.grownBy wr w' (Value.ownBlock _) := hgr; have hk' := (hgr.block w1.heap.size lt1 (fun e => by have := (hownT.lt _ e.symm).1; omega)).trans hk; obtain ⟨k0, k1, k2, k3, k4⟩ := cells5 hk'; obtain ⟨f0, f1, f2, f3, f4⟩ := frozen5 hk')
          have hk2 := heap_setCell_same w' w1.heap.size 0 _ _ (.slice Av (j + 1) cv) hk'
          have gb := grown_cell w' w1.heap.size 0 (.slice Av (j + 1) cv)
          have hk3 := (gb.block w.heap.size (by have := hgr.size; omega) (fun e => by have := Option.some.inj e; have := S1.out; omega)).trans ((hgr.block w.heap.size lt0 (fun e => by have := (hownT.lt _ e.symm).1; have := S1.out; omega)).trans hk0)
          have hk4 := (gb.block (w.heap.size + 1) (by have := hgr.size; omega) (fun e => by have := Option.some.inj e; have := S1.out; omega)).trans ((hgr.block (w.heap.size + 1) lt2 (fun e => by have := (hownT.lt _ e.symm).1; have := S1.out; omega)).trans hk1)
          have hown2 := hown'.kept gb (.inr fun e => by have := (hown'.lt _ e).1; omega)
          have hownL2 := (hownL.kept hgr (apart_ne hap)).kept gb (.inr fun e => by have := (hownL.lt _ e).1; omega)
          have hap2 := grow_apart hap hvb (fun k hk => by have := (hownL.lt k hk).2; omega)
          have hb5 := (hbel.grown hgr hbel.size fun k hk => by have := (hownT.lt k hk).1; have := S1.out; omega).grown gb (Nat.le_trans hbel.size hgr.size) fun k hk => by have := Option.some.inj hk; have := S1.out; omega
          have HK2 := Lib.hid hk2; have HK3 := Lib.hid hk3; have HK4 := Lib.hid hk4; have HO2 := Lib.hid hown2; have HL2 := Lib.hid hownL2; have HP2 := Lib.hid hap2; have HB5 := Lib.hid hb5; have HS5 : Hid (w1.heap.size + 1 ≤ (w'.setCell ⟨w1.heap.size, 0, none⟩ (.slice Av (j + 1) cv)).heap.size) := Lib.hid (by have := hgr.size; rw [size_set]; omega)
          clear hk2 gb hk3 hk4 hown2 hownL2 hap2 hb5 hown' hgr hvb hownT hownL hap hbel hk hk0 hk1 hk'
          refine ⟨⟨_, _, _, _, _, _, _, _, _, _, _, _, _, _, _, _, _, _, _, _, _, _, _, _, _, _, _, _, _, _, _, _, _, _, _, _, _, _, _, _, _, _, _, _, _, _, _, _, _, _, _, _, _, _, _, _, _, ?rel, rfl⟩, ?measure⟩
          case rel => exact ⟨j + 1, .slice Av (j + 1) cv, by omega, by go_num, HK2.out, HK3.out, HK4.out, by rw [HNX.out]; exact HO2.out, HL2.out, HP2.out, HS5.out, HB5.out⟩
          case measure => simp [intOf]; omega
        · obtain rfl : j = 8 := by omega
          obtain ⟨AT, cT, rfl⟩ := own_form5 hownT
          obtain ⟨AL, cL, rfl⟩ := own_form5 hownL
          obtain ⟨e0, e1, e2, e3, e4⟩ := cells5 hk
          obtain ⟨c0, c1, c2⟩ := cells3 hk0
          obtain ⟨r0, r1, r2, r3, r4⟩ := cells5 hk1
          obtain ⟨q0, q1, q2, q3, q4⟩ := frozen5 hk1
          have lt0 := heap_lt hk0; have lt1 := heap_lt hk; have lt2 := heap_lt hk1
          have gb := grown_five wr (w.heap.size + 1) (.slice AT 8 cT) (.slice AL 4 cL) (.int .i64 128) (.bool false) (.bool false)
          obtain ⟨m0, m1, m2, m3, m4⟩ := cells5 (put_five hk1 (.slice AT 8 cT) (.slice AL 4 cL) (.int .i64 128) (.bool false) (.bool false))
          have GB := Lib.hid gb; have HM := Lib.hid (And.intro m0 (And.intro m1 (And.intro m2 (And.intro m3 m4)))); have HOT := Lib.hid hownT; have HOL2 := Lib.hid hownL; have HAP := Lib.hid hap; have HBE := Lib.hid hbel
          clear gb m0 m1 m2 m3 m4 hownT hownL hap hbel hk hk0 hk1
          go_wp2
          obtain ⟨m0, m1, m2, m3, m4⟩ := HM.out
          have ot := HOT.out.kept GB.out (.inr fun e => by have := (HOT.out.lt _ e).1; have := S1.out; omega)
          have ol := HOL2.out.kept GB.out (.inr fun e => by have := (HOL2.out.lt _ e).1; have := S1.out; omega)
          have bz := HBE.out.grown GB.out HBE.out.size fun k hk => by have := Option.some.inj hk; omega
          refine bodyPost_ret (v := .agg #[.slice AT 8 cT, .slice AL 4 cL, .int .i64 128, .bool false, .bool false]) (by simp [results, Try.results23, go_sem, m0, m1, m2, m3, m4]) rfl ⟨AT, cT, AL, cL, rfl, ⟨?_, ?_, ?_⟩, bz⟩
          · exact own_back5 (own_lower ot (by have := S1.out; omega)) (tpL_len l a x y 4 8)
          · exact own_back5 (own_lower ol (by have := S1.out; omega)) (leL_len l a x y 4)
          · rw [tpL_len, leL_len]; exact HAP.out
end Go.Proofs.Ytemfiglflbfocaa
