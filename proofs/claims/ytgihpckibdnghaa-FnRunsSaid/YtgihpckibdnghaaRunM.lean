/-
  Plain lemmas: levels come back from their pairs, and pairs from their levels. No condition but those that each lemma states.
-/
import Derived.Test.YtgihpckibdnghaaRunC
namespace Go.Proofs.Ytgihpckibdnghaa
open Go.RowKit
set_option linter.unusedVariables false

/-- Every pair stands for levels. -/
def goodP (p : EntL) : Prop := ∀ q ∈ p, 0 ≤ q.1 ∧ q.2 ≠ 0 ∧ inV q.2 = true
/-- The levels that pairs stand for, without the zeros behind the last. -/
def exP (p : EntL) : List Int := p.flatMap fun q => List.replicate q.1.toNat 0 ++ [q.2]
theorem exP_cons (q : Int × Int) (p : EntL) : exP (q :: p) = List.replicate q.1.toNat 0 ++ [q.2] ++ exP p := by simp [exP]
theorem exP_append (a b : EntL) : exP (a ++ b) = exP a ++ exP b := by simp [exP]
theorem fold_zeros (k : Nat) : ∀ s : EntL × Nat, (List.replicate k (0 : Int)).foldl stP s = (s.1, s.2 + k) := by
  induction k with
  | zero => intro s; rfl
  | succ k ih =>
    intro s
    rw [List.replicate_succ, List.foldl_cons, stP_zero, ih]
    simp only
    congr 1
    omega
theorem fold_ex : ∀ (p : EntL) (ps : EntL), goodP p → (exP p).foldl stP (ps, 0) = (ps ++ p, 0)
  | [], ps, _ => by simp [exP]
  | (r, v) :: p, ps, h => by
    have hq := h (r, v) (by simp)
    obtain ⟨n, rfl⟩ := Int.eq_ofNat_of_zero_le hq.1
    rw [exP_cons, List.foldl_append, List.foldl_append, fold_zeros, List.foldl_cons, List.foldl_nil, stP_other _ _ hq.2.1]
    simp only [Int.toNat_natCast, Nat.zero_add]
    rw [fold_ex p _ (fun q hq => h q (List.mem_cons_of_mem _ hq)), List.append_assoc]
    rfl
theorem set_zeros (m r : Nat) (v : Int) (h : r < m) : (List.replicate m (0 : Int)).set r v = List.replicate r 0 ++ [v] ++ List.replicate (m - (r + 1)) 0 := by
  apply List.ext_getElem
  · simp; omega
  · intro i h1 h2
    rw [List.getElem_set]
    split
    · rename_i e
      subst e
      rw [List.getElem_append_left (by simp), List.getElem_append_right (by simp)]
      simp
    · rename_i e
      rw [List.getElem_replicate]
      by_cases hi : i < r
      · rw [List.getElem_append_left (by simp; omega), List.getElem_append_left (by simpa using hi)]
        simp
      · rw [List.getElem_append_right (by simp; omega)]
        simp
theorem take_pair (p : EntL) (j : Nat) (h : j < p.length) : p.take (j + 1) = p.take j ++ [entAt p j] := by
  rw [List.take_succ_eq_append_getElem h]
  unfold entAt
  rw [List.getD_eq_getElem?_getD, List.getElem?_eq_getElem h]
  rfl
/-- One pair more, where it fits. -/
theorem set_next (E : List Int) (m r : Nat) (v : Int) (h : r < m) : (E ++ List.replicate m (0 : Int)).set (E.length + r) v = E ++ (List.replicate r 0 ++ [v]) ++ List.replicate (m - (r + 1)) 0 := by
  rw [List.set_append_right _ _ (by omega), show E.length + r - E.length = r by omega, set_zeros m r v h, List.append_assoc, List.append_assoc, List.append_assoc]
theorem lfT_form {N : Nat} {p : EntL} : ∀ (j : Nat) (o : List Int) (a : Nat), lfT N p j = some (o, a) → j ≤ p.length →
    o = exP (p.take j) ++ List.replicate (N - a) 0 ∧ a = (exP (p.take j)).length ∧ a ≤ N ∧ goodP (p.take j)
  | 0, o, a, h, _ => by
    rw [lfT] at h
    obtain ⟨rfl, rfl⟩ := Prod.mk.inj (Option.some.inj h)
    refine ⟨by simp [exP], by simp [exP], Nat.zero_le _, fun q hq => ?_⟩
    simp at hq
  | j + 1, o, a, h, hj => by
    cases h0 : lfT N p j with
    | none =>
      rw [lfT, h0] at h
      exact absurd h (by simp)
    | some s0 =>
      obtain ⟨o0, a0⟩ := s0
      obtain ⟨ih1, ih2, ih3, ih4⟩ := lfT_form j o0 a0 h0 (by omega)
      obtain ⟨x, y, he⟩ : ∃ x y, (x, y) = entAt p j := ⟨_, _, rfl⟩
      rw [lfT_step h0 he] at h
      split at h
      · rename_i hf
        obtain ⟨rfl, rfl⟩ := Prod.mk.inj (Option.some.inj h)
        obtain ⟨f1, f2, f3, f4⟩ := fitV_parts hf
        obtain ⟨r, rfl⟩ := Int.eq_ofNat_of_zero_le f1
        have hr : r < N - a0 := by omega
        rw [take_pair p j (by omega), ← he, exP_append, show exP [((r : Int), y)] = List.replicate r 0 ++ [y] by simp [exP], Int.toNat_natCast]
        refine ⟨?_, ?_, by omega, ?_⟩
        · rw [ih1, ih2, set_next _ _ _ _ (by rw [← ih2]; exact hr)]
          rw [show N - (exP (p.take j)).length - (r + 1) = N - ((exP (p.take j)).length + r + 1) by omega]
        · rw [List.length_append, ← ih2]; simp; omega
        · intro q hq
          rw [List.mem_append] at hq
          rcases hq with hq | hq
          · exact ih4 q hq
          · simp at hq
            subst hq
            exact ⟨f1, f3, f4⟩
      · exact absurd h (by simp)
theorem exP_in : ∀ {p : EntL}, goodP p → ∀ x ∈ exP p, inV x = true := by
  intro p h x hx
  simp only [exP, List.mem_flatMap, List.mem_append, List.mem_replicate, List.mem_singleton] at hx
  obtain ⟨q, hq, hx⟩ := hx
  rcases hx with ⟨_, rfl⟩ | rfl
  · rfl
  · exact (h q hq).2.2
/-- What LevelsFrom takes comes back from PairsOf. -/
theorem pairs_back {y : EntL} {n : Int} (h : lfE y n = 0) : prR (lfR y n) = y := by
  unfold lfE at h
  cases ho : lfO y n with
  | none => rw [ho] at h; exact absurd h (by decide)
  | some s =>
    obtain ⟨o, a⟩ := s
    have hR : lfR y n = o := by unfold lfR; rw [ho]
    rw [hR]
    unfold lfO at ho
    split at ho
    · rename_i hn
      obtain ⟨N, rfl⟩ := Int.eq_ofNat_of_zero_le (show 0 ≤ n by omega)
      rw [Int.toNat_natCast] at ho
      have hN : N = 16 ∨ N = 64 := by omega
      have hl := lfT_len _ _ ho
      obtain ⟨h1, h2, h3, h4⟩ := lfT_form y.length o a ho (Nat.le_refl _)
      rw [List.take_of_length_le (Nat.le_refl _)] at h1 h2 h4
      have hok : okV o = true := by
        unfold okV
        rw [Bool.and_eq_true]
        constructor
        · rw [List.all_eq_true]
          intro x hx
          rw [h1, List.mem_append] at hx
          rcases hx with hx | hx
          · exact exP_in h4 x hx
          · rw [List.mem_replicate] at hx
            rw [hx.2]; rfl
        · have hlen : o.length = N := hl.1
          rw [hlen]
          unfold sizeV
          rcases hN with rfl | rfl <;> decide
      unfold prR
      rw [hok, if_pos rfl]
      unfold prT
      rw [h1, List.foldl_append, fold_ex y [] h4, fold_zeros]
      simp
    · exact absurd ho (by simp)
theorem fold_back : ∀ (l : List Int) (s : EntL × Nat), (∀ x ∈ l, inV x = true) → goodP s.1 →
    exP (l.foldl stP s).1 ++ List.replicate (l.foldl stP s).2 0 = exP s.1 ++ List.replicate s.2 0 ++ l ∧ goodP (l.foldl stP s).1
  | [], s, _, hs => by simp [hs]
  | x :: l, s, hl, hs => by
    rw [List.foldl_cons]
    have hx := hl x (by simp)
    have hl2 : ∀ z ∈ l, inV z = true := fun z hz => hl z (List.mem_cons_of_mem _ hz)
    by_cases h : x = 0
    · subst h
      rw [stP_zero]
      have ih := fold_back l (s.1, s.2 + 1) hl2 hs
      refine ⟨?_, ih.2⟩
      rw [ih.1]
      simp only [List.replicate_succ', List.append_assoc, List.cons_append, List.nil_append]
    · rw [stP_other _ _ h]
      have hg : goodP (s.1 ++ [((s.2 : Int), x)]) := by
        intro q hq
        rw [List.mem_append] at hq
        rcases hq with hq | hq
        · exact hs q hq
        · simp at hq
          subst hq
          exact ⟨by simp, h, hx⟩
      have ih := fold_back l (s.1 ++ [((s.2 : Int), x)], 0) hl2 hg
      refine ⟨?_, ih.2⟩
      rw [ih.1, exP_append, show exP [((s.2 : Int), x)] = List.replicate s.2 0 ++ [x] by simp [exP]]
      simp
theorem lfT_fits {N : Nat} {p : EntL} (hg : goodP p) (hN : (exP p).length ≤ N) : ∀ j, j ≤ p.length → lfT N p j = some (exP (p.take j) ++ List.replicate (N - (exP (p.take j)).length) 0, (exP (p.take j)).length)
  | 0, _ => by rw [lfT]; simp [exP]
  | j + 1, hj => by
    obtain ⟨x, y, he⟩ : ∃ x y, (x, y) = entAt p j := ⟨_, _, rfl⟩
    rw [lfT_step (lfT_fits hg hN j (by omega)) he]
    have hmem : entAt p j ∈ p := by
      unfold entAt
      rw [List.getD_eq_getElem?_getD, List.getElem?_eq_getElem (by omega)]
      exact List.getElem_mem _
    obtain ⟨g1, g2, g3⟩ := hg _ hmem
    rw [← he] at g1 g2 g3
    obtain ⟨r, rfl⟩ := Int.eq_ofNat_of_zero_le g1
    have ht : exP (p.take (j + 1)) = exP (p.take j) ++ (List.replicate r 0 ++ [y]) := by
      rw [take_pair p j (by omega), ← he, exP_append]
      congr 1
      simp [exP]
    have hle : (exP (p.take (j + 1))).length ≤ N := by
      have h1 : exP p = exP (p.take (j + 1)) ++ exP (p.drop (j + 1)) := by rw [← exP_append, List.take_append_drop]
      have h2 : (exP p).length = (exP (p.take (j + 1))).length + (exP (p.drop (j + 1))).length := by rw [← List.length_append, ← h1]
      omega
    have hlen : (exP (p.take (j + 1))).length = (exP (p.take j)).length + r + 1 := by rw [ht]; simp; omega
    have hf : fitV ((r : Int), y) ((N : Int) - ((exP (p.take j)).length : Int)) = true := by
      unfold fitV
      simp only [Bool.and_eq_true, decide_eq_true_eq]
      exact ⟨⟨⟨g1, by omega⟩, g2⟩, g3⟩
    rw [if_pos hf, Int.toNat_natCast, set_next _ _ _ _ (by omega), hlen, ← ht]
    rw [show N - (exP (p.take j)).length - (r + 1) = N - ((exP (p.take j)).length + r + 1) by omega]
/-- What PairsOf gives is taken back by LevelsFrom. -/
theorem levels_back {l : List Int} (h : okV l = true) : lfR (prR l) (l.length : Int) = l ∧ lfE (prR l) (l.length : Int) = 0 := by
  have hR : prR l = (prT l).1 := by unfold prR; rw [h]; rfl
  have hin : ∀ x ∈ l, inV x = true := by
    simp only [okV, Bool.and_eq_true, List.all_eq_true] at h
    exact h.1
  obtain ⟨h1, h2⟩ := fold_back l ([], 0) hin (fun q hq => by simp at hq)
  change exP (prT l).1 ++ List.replicate (prT l).2 0 = _ at h1
  change goodP (prT l).1 at h2
  simp only [exP, List.flatMap_nil, List.replicate_zero, List.append_nil, List.nil_append] at h1
  change exP (prT l).1 ++ List.replicate (prT l).2 0 = l at h1
  rw [hR]
  obtain ⟨p, hp⟩ : ∃ p, p = (prT l).1 := ⟨_, rfl⟩
  obtain ⟨k, hk⟩ : ∃ k, k = (prT l).2 := ⟨_, rfl⟩
  rw [← hp, ← hk] at h1
  rw [← hp] at h2 ⊢
  have hlen : (exP p).length + k = l.length := by rw [← h1]; simp
  have hN := okV_len h
  have hT := lfT_fits h2 (N := l.length) (by omega) p.length (Nat.le_refl _)
  rw [List.take_of_length_le (Nat.le_refl _), show l.length - (exP p).length = k by omega, h1] at hT
  exact lfO_some hN hT
theorem lfE_cases (p : EntL) (n : Int) : lfE p n = 0 ∨ lfE p n = 5 := by
  unfold lfE
  cases lfO p n with
  | some s => exact .inl rfl
  | none => exact .inr rfl
end Go.Proofs.Ytgihpckibdnghaa
