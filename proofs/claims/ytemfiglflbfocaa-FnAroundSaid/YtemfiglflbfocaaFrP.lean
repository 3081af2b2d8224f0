/-
  Plain facts of chapter 18: a block that is set is there and nothing else changes (FnBlocksIn); what lies around a block hangs on nothing that is decoded later, and is valid (FnAround). No condition.
-/
import Derived.Test.YtemfiglflbfocaaFrK
import Derived.Test.YtemfiglflbfocaaFrE
import Derived.Test.YtemfiglflbfocaaFrC
import Derived.Test.YtemfiglflbfocaaApp
namespace Go.Proofs.Ytemfiglflbfocaa
set_option linter.unusedVariables false

/-- Where the number k of a block lies. -/
def plP (a x y n k : Nat) : Nat := (y + k / n) * a + x + k % n
theorem place_parts {a x y n k : Nat} (hn : 0 < n) (hx : x + n ≤ a) : plP a x y n k / a = y + k / n ∧ plP a x y n k % a = x + k % n := by
  have h := Nat.mod_lt k hn
  have e : plP a x y n k = (x + k % n) + (y + k / n) * a := by unfold plP; omega
  rw [e, Nat.add_mul_div_right _ _ (by omega), Nat.add_mul_mod_self_right, Nat.div_eq_of_lt (by omega), Nat.mod_eq_of_lt (by omega)]
  exact ⟨by omega, rfl⟩
theorem place_inj {a x y n j k : Nat} (hn : 0 < n) (hx : x + n ≤ a) (h : plP a x y n j = plP a x y n k) : j = k := by
  have h1 := place_parts (y := y) (k := j) hn hx
  have h2 := place_parts (y := y) (k := k) hn hx
  rw [h] at h1
  have e1 : j / n = k / n := by omega
  have e2 : j % n = k % n := by omega
  rw [← Nat.div_add_mod j n, ← Nat.div_add_mod k n, e1, e2]
theorem getD_set_same (l : List Int) (i : Nat) (v : Int) (hi : i < l.length) : (l.set i v).getD i 0 = v := by
  rw [List.getD_eq_getElem?_getD, List.getElem?_set_self hi]; rfl
theorem getD_set_other (l : List Int) (i j : Nat) (v : Int) (h : i ≠ j) : (l.set i v).getD j 0 = l.getD j 0 := by
  rw [List.getD_eq_getElem?_getD, List.getD_eq_getElem?_getD, List.getElem?_set_ne h]
theorem sbP_out {l m : List Int} {a x y n i : Nat} : ∀ k, (∀ j, j < k → plP a x y n j ≠ i) → (sbP l m a x y n k).getD i 0 = l.getD i 0 := by
  intro k
  induction k with
  | zero => intro _; rw [sbP_zero]
  | succ k ih =>
    intro h
    rw [sbP_next]
    show ((sbP l m a x y n k).set (plP a x y n k) (m.getD k 0)).getD i 0 = _
    rw [getD_set_other _ _ _ _ (h k (by omega)), ih fun j hj => h j (by omega)]
theorem sbP_in {l m : List Int} {a x y n j : Nat} (hn : 0 < n) (hx : x + n ≤ a) (hj : plP a x y n j < l.length) : ∀ k, j < k → (sbP l m a x y n k).getD (plP a x y n j) 0 = m.getD j 0 := by
  intro k
  induction k with
  | zero => intro h; omega
  | succ k ih =>
    intro h
    rw [sbP_next]
    show ((sbP l m a x y n k).set (plP a x y n k) (m.getD k 0)).getD (plP a x y n j) 0 = _
    by_cases e : j = k
    · subst e
      exact getD_set_same _ _ _ (by rw [sbP_len]; exact hj)
    · rw [getD_set_other _ _ _ _ (fun q => e (place_inj hn hx q).symm), ih (by omega)]
theorem all_set {l : List Int} {i : Nat} {v : Int} {p : Int → Bool} (h : l.all p = true) (hv : p v = true) : (l.set i v).all p = true := by
  rw [List.all_eq_true] at h ⊢
  intro z hz
  rcases List.mem_or_eq_of_mem_set hz with h1 | h1
  · exact h z h1
  · rw [h1]; exact hv
theorem all_getD {l : List Int} {p : Int → Bool} (h : l.all p = true) {i : Nat} (hi : i < l.length) : p (l.getD i 0) = true := by
  rw [List.all_eq_true] at h
  rw [List.getD_eq_getElem?_getD, List.getElem?_eq_getElem hi]
  exact h _ (List.getElem_mem hi)
theorem sbP_all {l m : List Int} {a x y n : Nat} {p : Int → Bool} (h : l.all p = true) (hm : m.all p = true) : ∀ k, k ≤ m.length → (sbP l m a x y n k).all p = true := by
  intro k
  induction k with
  | zero => intro _; rw [sbP_zero]; exact h
  | succ k ih => intro hk; rw [sbP_next]; exact all_set (ih (by omega)) (all_getD hm (by omega))
/-- The parts of a block that lies within a right frame. -/
theorem inE_nat {a b x y n : Int} {l : List Int} (h : inE a b l x y n = true) : ∃ A B X Y N : Nat, a = (A : Int) ∧ b = (B : Int) ∧ x = (X : Int) ∧ y = (Y : Int) ∧ n = (N : Int) ∧ (N = 4 ∨ N = 8) ∧ X + N ≤ A ∧ Y + N ≤ B ∧ A ≤ 32 ∧ B ≤ 32 ∧ 8 ≤ A ∧ 8 ≤ B ∧ l.length = A * B ∧ X % N = 0 ∧ Y % N = 0 ∧ A % 8 = 0 ∧ B % 8 = 0 ∧ l.all pixE = true := by
  simp only [inE, Bool.and_eq_true, decide_eq_true_eq] at h
  obtain ⟨⟨⟨⟨⟨h1, h2⟩, h3⟩, h4⟩, h5⟩, h6⟩ := h
  obtain ⟨s1, s2, s3⟩ := frameE_sides h1
  obtain ⟨⟨a1, a2⟩, ⟨b1, b2⟩, am, bm⟩ := sidesE_parts s1
  have hx := betE_true h3; have hy := betE_true h4
  have hn : n = 4 ∨ n = 8 := by simpa [okN] using h2
  obtain ⟨A, rfl⟩ := Int.eq_ofNat_of_zero_le (show 0 ≤ a by omega)
  obtain ⟨B, rfl⟩ := Int.eq_ofNat_of_zero_le (show 0 ≤ b by omega)
  obtain ⟨X, rfl⟩ := Int.eq_ofNat_of_zero_le hx.1
  obtain ⟨Y, rfl⟩ := Int.eq_ofNat_of_zero_le hy.1
  obtain ⟨N, rfl⟩ := Int.eq_ofNat_of_zero_le (show 0 ≤ n by omega)
  have hl : l.length = A * B := by exact_mod_cast s2
  exact ⟨A, B, X, Y, N, rfl, rfl, rfl, rfl, rfl, by omega, by omega, by omega, by omega, by omega, by omega, by omega, hl, by exact_mod_cast h5, by exact_mod_cast h6, by omega, by omega, s3⟩
/-- What FnBlocksIn asks of a block that was set: the frame is right, the block is there, and nothing else changed. -/
theorem set_frame {a b x y : Int} {l m : List Int} (h : sbE a b l x y m = true) : frameE a b (sbL a b l x y m) = true := by
  have h0 := h
  simp only [sbE, Bool.and_eq_true] at h
  obtain ⟨h1, h2⟩ := h
  have hf : frameE a b l = true := by
    simp only [inE, Bool.and_eq_true] at h1
    exact h1.1.1.1.1.1
  have hs := frameE_sides hf
  unfold frameE
  rw [sbL_len, hs.1, hs.2.1]
  have : (sbL a b l x y m).all pixE = true := by
    unfold sbL
    rw [if_pos h0]
    exact sbP_all hs.2.2 h2 _ (Nat.le_refl _)
  rw [this]
  simp
theorem side_sq {k : Nat} {N : Nat} (h : sideN k = (N : Int)) (hN : N = 4 ∨ N = 8) : k = N * N := by
  rcases sideN_cases (k := k) (by rw [h]; rcases hN with rfl | rfl <;> decide) with ⟨h1, h2⟩ | ⟨h1, h2⟩ <;> rcases hN with rfl | rfl <;> first | exact h1 | (exfalso; omega)
theorem set_block {a b x y : Int} {l m : List Int} (h : sbE a b l x y m = true) : blkL a b (sbL a b l x y m) x y (sideN m.length) = m := by
  have hfr := set_frame h
  have h0 := h
  simp only [sbE, Bool.and_eq_true] at h
  obtain ⟨h1, h2⟩ := h
  have hin2 : inE a b (sbL a b l x y m) x y (sideN m.length) = true := by
    have h3 := h1
    simp only [inE, Bool.and_eq_true] at h3 ⊢
    exact ⟨⟨⟨⟨⟨hfr, h3.1.1.1.1.2⟩, h3.1.1.1.2⟩, h3.1.1.2⟩, h3.1.2⟩, h3.2⟩
  obtain ⟨A, B, X, Y, N, rfl, rfl, rfl, rfl, hN, hN48, hX, hY, hA, hB, -, -, hl, -⟩ := inE_nat h1
  unfold blkL
  rw [if_pos hin2]
  unfold sbL
  rw [if_pos h0, hN]
  simp only [Int.toNat_natCast]
  have hsq := side_sq hN hN48
  refine ints_same (n := N * N) (blkF_len ..) hsq fun q hq => ?_
  rw [List.getD_eq_getElem?_getD, blkF, List.getElem?_map, List.getElem?_range hq]
  show (sbP l m A X Y N m.length).getD (plP A X Y N q) 0 = _
  have hp : plP A X Y N q < l.length := by
    rw [hl]
    exact st_place (by omega) hq hX hY
  exact sbP_in (by omega) hX hp _ (by omega)
theorem set_else {a b x y : Int} {l m : List Int} (h : sbE a b l x y m = true) {i : Nat} (hi : ¬ (x ≤ ((i % a.toNat : Nat) : Int) ∧ ((i % a.toNat : Nat) : Int) < x + sideN m.length ∧ y ≤ ((i / a.toNat : Nat) : Int) ∧ ((i / a.toNat : Nat) : Int) < y + sideN m.length)) : (sbL a b l x y m).getD i 0 = l.getD i 0 := by
  have h0 := h
  simp only [sbE, Bool.and_eq_true] at h
  obtain ⟨h1, h2⟩ := h
  obtain ⟨A, B, X, Y, N, rfl, rfl, rfl, rfl, hN, hN48, hX, hY, -⟩ := inE_nat h1
  unfold sbL
  rw [if_pos h0]
  rw [hN] at hi ⊢
  simp only [Int.toNat_natCast] at hi ⊢
  refine sbP_out _ fun j hj e => hi ?_
  have hsq := side_sq hN hN48
  have p := place_parts (a := A) (x := X) (y := Y) (n := N) (k := j) (by omega) hX
  rw [e] at p
  have h3 := Nat.mod_lt j (show 0 < N by omega)
  have h4 : j / N < N := Nat.div_lt_of_lt_mul (by omega)
  rw [p.1, p.2]
  generalize j % N = u at *
  generalize j / N = v at *
  omega
/-- Two frames that agree on all that is decoded before a block. -/
def AgreeB (f g : List Int) (a x y n : Nat) : Prop := ∀ i, i < f.length → ¬ (y ≤ i / a ∧ x ≤ i % a) → ¬ (y + n ≤ i / a) → f.getD i 0 = g.getD i 0
theorem spot_parts {a r c : Nat} (hc : c < a) : (r * a + c) / a = r ∧ (r * a + c) % a = c := by
  rw [Nat.add_comm, Nat.add_mul_div_right _ _ (by omega), Nat.add_mul_mod_self_right, Nat.div_eq_of_lt hc, Nat.mod_eq_of_lt hc]
  exact ⟨by omega, rfl⟩
theorem spot_lt {a b r c : Nat} (hc : c < a) (hr : r < b) : r * a + c < a * b := by
  have : (r + 1) * a ≤ b * a := Nat.mul_le_mul_right a hr
  rw [Nat.add_mul, Nat.one_mul, Nat.mul_comm b a] at this
  omega
theorem around_left {f g : List Int} {a b x y n : Nat} (h : AgreeB f g a x y n) (hl : f.length = a * b) (hx : x + n ≤ a) (hy : y + n ≤ b) (hn : 0 < n) : leL f a x y n = leL g a x y n := by
  unfold leL
  refine List.map_congr_left fun i hi => ?_
  have hi := List.mem_range.1 hi
  unfold leF
  split
  · rename_i h0
    rw [show (y + i) * a + x - 1 = (y + i) * a + (x - 1) by omega]
    obtain ⟨e1, e2⟩ := spot_parts (a := a) (r := y + i) (c := x - 1) (by omega)
    exact h _ (by rw [hl]; exact spot_lt (by omega) (by omega)) (by rw [e1, e2]; omega) (by rw [e1]; omega)
  · rfl
theorem around_corner {f g : List Int} {a b x y n : Nat} (h : AgreeB f g a x y n) (hl : f.length = a * b) (hx : x + n ≤ a) (hy : y + n ≤ b) (hn : 0 < n) : coV f a x y = coV g a x y := by
  unfold coV
  split
  · rename_i h0
    rw [show (y - 1) * a + x - 1 = (y - 1) * a + (x - 1) by omega]
    obtain ⟨e1, e2⟩ := spot_parts (a := a) (r := y - 1) (c := x - 1) (by omega)
    exact h _ (by rw [hl]; exact spot_lt (by omega) (by omega)) (by rw [e1, e2]; omega) (by rw [e1]; omega)
  · rfl
theorem around_top {f g : List Int} {a b x y n : Nat} (h : AgreeB f g a x y n) (hl : f.length = a * b) (hx : x + n ≤ a) (hy : y + n ≤ b) (hn : 0 < n) : ∀ i, tpL f a x y n i = tpL g a x y n i := by
  intro i
  induction i with
  | zero => rfl
  | succ i ih =>
    rw [tpL, tpL, ih]
    congr 2
    unfold tpV
    split
    · rfl
    split
    · rename_i h0 h1
      rw [Nat.add_assoc]
      obtain ⟨e1, e2⟩ := spot_parts (a := a) (r := y - 1) (c := x + i) (by omega)
      exact h _ (by rw [hl]; exact spot_lt (by omega) (by omega)) (by rw [e1, e2]; omega) (by rw [e1]; omega)
    · rfl
theorem pix_at {l : List Int} (h : l.all pixE = true) {i : Nat} (hi : i < l.length) : 0 ≤ l.getD i 0 ∧ l.getD i 0 ≤ 255 := pixE_true (all_getD h hi)
theorem all_of_getD {l : List Int} (h : ∀ i, i < l.length → 0 ≤ l.getD i 0 ∧ l.getD i 0 ≤ 255) : l.all pixE = true := by
  rw [List.all_eq_true]
  intro z hz
  obtain ⟨i, hi, rfl⟩ := List.mem_iff_getElem.1 hz
  have := h i hi
  rw [List.getD_eq_getElem?_getD, List.getElem?_eq_getElem hi] at this
  simpa [pixE] using this
theorem tpL_pix {f : List Int} {a b x y n : Nat} (hp : f.all pixE = true) (hl : f.length = a * b) (hx : x + n ≤ a) (hy : y + n ≤ b) (hn : 0 < n) : ∀ i j, j < i → 0 ≤ (tpL f a x y n i).getD j 0 ∧ (tpL f a x y n i).getD j 0 ≤ 255 := by
  intro i
  induction i with
  | zero => intro j hj; omega
  | succ i ih =>
    intro j hj
    rw [tpL]
    by_cases e : j < i
    · rw [List.getD_eq_getElem?_getD, List.getElem?_append_left (by rw [tpL_len]; exact e), ← List.getD_eq_getElem?_getD]
      exact ih j e
    · obtain rfl : j = i := by omega
      rw [List.getD_eq_getElem?_getD, List.getElem?_append_right (by rw [tpL_len]; exact Nat.le_refl _), tpL_len, Nat.sub_self]
      show 0 ≤ tpV f a x y n (tpL f a x y n j) j ∧ tpV f a x y n (tpL f a x y n j) j ≤ 255
      unfold tpV
      split
      · omega
      split
      · rename_i h0 h1
        rw [Nat.add_assoc]
        exact pix_at hp (by rw [hl]; exact spot_lt (by omega) (by omega))
      · rename_i h0 h1
        exact ih (j - 1) (by omega)
/-- The neighbourhood of a block within a right frame is valid. -/
theorem around_ok {a b x y n : Int} {f : List Int} (h : inE a b f x y n = true) : nbOk (tpL f a.toNat x.toNat y.toNat n.toNat (2 * n.toNat)) (leL f a.toNat x.toNat y.toNat n.toNat) (coV f a.toNat x.toNat y.toNat) n = true := by
  obtain ⟨A, B, X, Y, N, rfl, rfl, rfl, rfl, rfl, hN, hX, hY, hA, hB, -, -, hl, -, -, -, -, hp⟩ := inE_nat h
  simp only [Int.toNat_natCast]
  have hN0 : 0 < N := by omega
  have k1 : (tpL f A X Y N (2 * N)).all pixE = true := all_of_getD fun i hi => tpL_pix hp hl hX hY hN0 _ i (by rwa [tpL_len] at hi)
  have k2 : (leL f A X Y N).all pixE = true := all_of_getD fun i hi => by
    rw [leL_len] at hi
    rw [List.getD_eq_getElem?_getD, leL, List.getElem?_map, List.getElem?_range hi]
    show 0 ≤ leF f A X Y i ∧ leF f A X Y i ≤ 255
    unfold leF
    split
    · rw [show (Y + i) * A + X - 1 = (Y + i) * A + (X - 1) by omega]
      exact pix_at hp (by rw [hl]; exact spot_lt (by omega) (by omega))
    · omega
  have k3 : pixE (coV f A X Y) = true := by
    have : 0 ≤ coV f A X Y ∧ coV f A X Y ≤ 255 := by
      unfold coV
      split
      · rw [show (Y - 1) * A + X - 1 = (Y - 1) * A + (X - 1) by omega]
        exact pix_at hp (by rw [hl]; exact spot_lt (by omega) (by omega))
      · omega
    simpa [pixE] using this
  unfold nbOk
  rw [tpL_len, leL_len, k1, k2, k3]
  have : okN (N : Int) = true := by rcases hN with rfl | rfl <;> decide
  rw [this]
  simp
end Go.Proofs.Ytemfiglflbfocaa
