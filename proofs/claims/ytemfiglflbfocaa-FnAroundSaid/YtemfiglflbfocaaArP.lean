/-
  Plain facts of FnAround: the frame whose samples behind a block are drawn anew is right, and what lies around the block is the same. No condition.
-/
import Derived.Test.YtemfiglflbfocaaFrP
import Derived.Test.YtemfiglflbfocaaFrF
import Derived.Test.YtemfiglflbfocaaIfE
namespace Go.Proofs.Ytemfiglflbfocaa
set_option linter.unusedVariables false

/-- The samples of the other frame. -/
def arV (l : List Int) (AT : Nat → Int) (a x y n i : Nat) : Int := if (y ≤ i / a ∧ x ≤ i % a) ∨ y + n ≤ i / a then AT i else l.getD i 0
def arL (l : List Int) (AT : Nat → Int) (a x y n N : Nat) : List Int := (List.range N).map (arV l AT a x y n)
theorem arL_len (l : List Int) (AT : Nat → Int) (a x y n N : Nat) : (arL l AT a x y n N).length = N := by simp [arL]
theorem arL_at {l : List Int} {AT : Nat → Int} {a x y n N i : Nat} (hi : i < N) : (arL l AT a x y n N).getD i 0 = arV l AT a x y n i := by
  rw [List.getD_eq_getElem?_getD, arL, List.getElem?_map, List.getElem?_range hi]
  rfl
theorem ar_agree (l : List Int) (AT : Nat → Int) (a x y n : Nat) : AgreeB l (arL l AT a x y n l.length) a x y n := by
  intro i hi h1 h2
  rw [arL_at hi, arV, if_neg (fun h => h.elim h1 h2)]
theorem ar_pix {l : List Int} {AT : Nat → Int} {a x y n : Nat} (hl : l.all pixE = true) (hAT : ∀ i, i < l.length → 0 ≤ AT i ∧ AT i < 256) : (arL l AT a x y n l.length).all pixE = true := by
  refine all_of_getD fun i hi => ?_
  rw [arL_len] at hi
  rw [arL_at hi, arV]
  split
  · have := hAT i hi; omega
  · exact pix_at hl hi
theorem ar_in {A B X Y n : Nat} {l : List Int} {AT : Nat → Int} (h : inE (A : Int) (B : Int) l (X : Int) (Y : Int) (n : Int) = true) (hAT : ∀ i, i < l.length → 0 ≤ AT i ∧ AT i < 256) : inE (A : Int) (B : Int) (arL l AT A X Y n l.length) (X : Int) (Y : Int) (n : Int) = true := by
  simp only [inE, Bool.and_eq_true] at h ⊢
  obtain ⟨⟨⟨⟨⟨h1, h2⟩, h3⟩, h4⟩, h5⟩, h6⟩ := h
  refine ⟨⟨⟨⟨⟨?_, h2⟩, h3⟩, h4⟩, h5⟩, h6⟩
  have hs := frameE_sides h1
  unfold frameE
  rw [arL_len, hs.1, hs.2.1, ar_pix hs.2.2 hAT]
  simp
theorem ar_same {A B X Y n : Nat} {l : List Int} {AT : Nat → Int} (h : inE (A : Int) (B : Int) l (X : Int) (Y : Int) (n : Int) = true) (hAT : ∀ i, i < l.length → 0 ≤ AT i ∧ AT i < 256) :
    nbTop (A : Int) (B : Int) (arL l AT A X Y n l.length) (X : Int) (Y : Int) (n : Int) = nbTop (A : Int) (B : Int) l (X : Int) (Y : Int) (n : Int) ∧ nbLeft (A : Int) (B : Int) (arL l AT A X Y n l.length) (X : Int) (Y : Int) (n : Int) = nbLeft (A : Int) (B : Int) l (X : Int) (Y : Int) (n : Int) ∧ nbCo (A : Int) (B : Int) (arL l AT A X Y n l.length) (X : Int) (Y : Int) (n : Int) = nbCo (A : Int) (B : Int) l (X : Int) (Y : Int) (n : Int) := by
  have h2 := ar_in h hAT
  have ag := ar_agree l AT A X Y n
  obtain ⟨A', B', X', Y', N', e1, e2, e3, e4, e5, hN, hX, hY, hA, hB, -, -, hl, -⟩ := inE_nat h
  have e1 := Int.ofNat.inj e1; have e2 := Int.ofNat.inj e2; have e3 := Int.ofNat.inj e3; have e4 := Int.ofNat.inj e4; have e5 := Int.ofNat.inj e5
  subst e1 e2 e3 e4 e5
  unfold nbTop nbLeft nbCo
  rw [if_pos h, if_pos h2, if_pos h, if_pos h2, if_pos h, if_pos h2]
  simp only [Int.toNat_natCast]
  have hn : 0 < n := by omega
  exact ⟨(around_top ag hl hX hY hn _).symm, (around_left ag hl hX hY hn).symm, (around_corner ag hl hX hY hn).symm⟩
theorem nb_none {a b x y n : Int} {l : List Int} (h : inE a b l x y n = false) : nbOk (nbTop a b l x y n) (nbLeft a b l x y n) (nbCo a b l x y n) n = false := by
  unfold nbTop nbLeft nbCo
  rw [if_neg (by rw [h]; decide), if_neg (by rw [h]; decide), if_neg (by rw [h]; decide)]
  unfold nbOk
  cases ho : okN n with
  | false => simp
  | true => rcases okN_cases ho with rfl | rfl <;> decide
end Go.Proofs.Ytemfiglflbfocaa
