/- Layer 5: prime numbers: the document's list of them. -/
import Derived.Test.YtechcmjmdepglaaDoorRefroot
namespace Go.Proofs.YtechcmjmdepglaaDoor
open Go.RowKit
set_option linter.unusedVariables false
set_option linter.unusedSimpArgs false

/-! ### Primes -/
/-- No number below d, from 2 on, whose square isn't more than X, divides X. -/
def pTo (X : Nat) : Nat → Bool
  | 0 => true
  | d + 1 => pTo X d && (decide (d < 2) || decide (X < d * d) || X % d != 0)
theorem pTo_all (X d : Nat) : pTo X d = true ↔ ∀ e, e < d → 2 ≤ e → e * e ≤ X → X % e ≠ 0 := by
  induction d with
  | zero => simp [pTo]
  | succ d ih =>
    rw [pTo, Bool.and_eq_true, ih]
    simp only [Bool.or_eq_true, decide_eq_true_eq, bne_iff_ne]
    constructor
    · rintro ⟨h1, h2⟩ e he h3 h4
      rcases Nat.lt_or_ge e d with h | h
      · exact h1 e h h3 h4
      · obtain rfl : e = d := by omega
        rcases h2 with (h2 | h2) | h2
        · omega
        · omega
        · exact h2
    · intro h
      refine ⟨fun e he => h e (by omega), ?_⟩
      rcases Nat.lt_or_ge d 2 with h1 | h1
      · exact .inl (.inl h1)
      · rcases Nat.lt_or_ge X (d * d) with h2 | h2
        · exact .inl (.inr h2)
        · exact .inr (h d (by omega) h1 h2)
def isP (X : Nat) : Bool := decide (2 ≤ X) && pTo X X
theorem isP_all (X : Nat) : isP X = true ↔ 2 ≤ X ∧ ∀ e, 2 ≤ e → e * e ≤ X → X % e ≠ 0 := by
  unfold isP
  rw [Bool.and_eq_true, decide_eq_true_eq, pTo_all]
  constructor
  · rintro ⟨h1, h2⟩
    refine ⟨h1, fun e he h3 => h2 e ?_ he h3⟩
    have := Nat.mul_le_mul he (Nat.le_refl e)
    omega
  · rintro ⟨h1, h2⟩
    exact ⟨h1, fun e _ he h3 => h2 e he h3⟩
theorem pTo_past {X d : Nat} (hX : 2 ≤ X) (h : X < d * d) : pTo X d = isP X := by
  rw [Bool.eq_iff_iff, pTo_all, isP_all]
  constructor
  · intro h1
    refine ⟨hX, fun e he h2 => h1 e ?_ he h2⟩
    rcases Nat.lt_or_ge e d with h3 | h3
    · exact h3
    · have := Nat.mul_le_mul h3 h3; omega
  · rintro ⟨_, h1⟩ e _ he h2
    exact h1 e he h2
theorem pTo_two (X : Nat) : pTo X 2 = true := by rw [pTo_all]; intro e h1 h2; omega
theorem pTo_step {X d : Nat} (h1 : 2 ≤ d) (h2 : d * d ≤ X) : pTo X (d + 1) = (pTo X d && X % d != 0) := by
  rw [pTo, decide_eq_false (by omega : ¬ d < 2), decide_eq_false (by omega : ¬ X < d * d)]; simp
/-- The primes below X. -/
def prL (X : Nat) : List Nat := (List.range X).filter isP
theorem prL_succ (X : Nat) : prL (X + 1) = prL X ++ (if isP X then [X] else []) := by
  unfold prL
  rw [List.range_succ, List.filter_append]
  congr 1
  simp [List.filter_cons]
theorem prL_yes {X : Nat} (h : isP X = true) : prL (X + 1) = prL X ++ [X] := by rw [prL_succ, if_pos h]
theorem prL_no {X : Nat} (h : isP X = false) : prL (X + 1) = prL X := by rw [prL_succ, h]; simp
theorem prL_mem {X p : Nat} : p ∈ prL X ↔ p < X ∧ isP p = true := by unfold prL; rw [List.mem_filter, List.mem_range]
theorem prL_two : prL 2 = [] := by decide +kernel
theorem prL_lt (X : Nat) : AllLt X (prL X) := fun p hp => (prL_mem.1 hp).1
theorem prL_mono {a b : Nat} (h : a ≤ b) : ∃ l, prL b = prL a ++ l := by
  obtain ⟨k, rfl⟩ : ∃ k, b = a + k := ⟨b - a, by omega⟩
  clear h
  induction k with
  | zero => exact ⟨[], by simp⟩
  | succ k ih =>
    obtain ⟨l, hl⟩ := ih
    exact ⟨l ++ (if isP (a + k) then [a + k] else []), by rw [← Nat.add_assoc, prL_succ, hl, List.append_assoc]⟩
theorem prL_uniq {a b : Nat} (h : (prL a).length = (prL b).length) : prL a = prL b := by
  rcases Nat.le_total a b with h1 | h1
  · obtain ⟨l, hl⟩ := prL_mono h1
    rw [hl, List.length_append] at h
    obtain rfl : l = [] := List.length_eq_zero_iff.1 (by omega)
    rw [hl, List.append_nil]
  · obtain ⟨l, hl⟩ := prL_mono h1
    rw [hl, List.length_append] at h
    obtain rfl : l = [] := List.length_eq_zero_iff.1 (by omega)
    rw [hl, List.append_nil]
theorem small_prime (X : Nat) : ∀ n e, e ≤ n → 2 ≤ e → e * e ≤ X → X % e = 0 → ∃ p, isP p = true ∧ p * p ≤ X ∧ X % p = 0 ∧ p ≤ e
  | 0, e, h, h2, _, _ => by omega
  | n + 1, e, h, h2, h3, h4 => by
    by_cases hp : isP e = true
    · exact ⟨e, hp, h3, h4, Nat.le_refl _⟩
    · have h5 : ∃ f, 2 ≤ f ∧ f * f ≤ e ∧ e % f = 0 := by
        apply Classical.byContradiction
        intro hc
        apply hp
        rw [isP_all]
        exact ⟨h2, fun f hf h6 h7 => hc ⟨f, hf, h6, h7⟩⟩
      obtain ⟨f, hf, h6, h7⟩ := h5
      have hfe : f < e := by have := Nat.mul_le_mul hf (Nat.le_refl f); omega
      have h8 : X % f = 0 := Nat.mod_eq_zero_of_dvd (Nat.dvd_trans (Nat.dvd_of_mod_eq_zero h7) (Nat.dvd_of_mod_eq_zero h4))
      have h9 : f * f ≤ X := by have := Nat.mul_le_mul h2 (Nat.le_refl e); omega
      obtain ⟨p, p1, p2, p3, p4⟩ := small_prime X n f (by omega) hf h9 h8
      exact ⟨p, p1, p2, p3, by omega⟩
/-- A number that no prime whose square isn't more divides is one. -/
theorem isP_of {X : Nat} (hX : 2 ≤ X) (h : ∀ p, p ∈ prL X → p * p ≤ X → X % p ≠ 0) : isP X = true := by
  rw [isP_all]
  refine ⟨hX, fun e he h1 h2 => ?_⟩
  obtain ⟨p, p1, p2, p3, p4⟩ := small_prime X e e (Nat.le_refl _) he h1 h2
  have : e < X := by have := Nat.mul_le_mul he (Nat.le_refl e); omega
  exact h p (prL_mem.2 ⟨by omega, p1⟩) p2 p3
theorem isP_not {X p : Nat} (hp : isP p = true) (h1 : p * p ≤ X) (h2 : X % p = 0) : isP X = false := by
  cases h : isP X with
  | false => rfl
  | true => exact absurd h2 ((isP_all X).1 h |>.2 p ((isP_all p).1 hp |>.1) h1)
theorem prL_sorted {X i j : Nat} (hij : i ≤ j) (hj : j < (prL X).length) : (prL X).getD i 0 ≤ (prL X).getD j 0 := by
  have hs : (prL X).Pairwise (· < ·) := (List.pairwise_lt_range).filter _
  rw [List.pairwise_iff_getElem] at hs
  rw [List.getD_eq_getElem?_getD, List.getD_eq_getElem?_getD, List.getElem?_eq_getElem (by omega), List.getElem?_eq_getElem hj]
  rcases Nat.lt_or_eq_of_le hij with h | rfl
  · exact Nat.le_of_lt (hs i j (by omega) hj h)
  · exact Nat.le_refl _
theorem prL_at {X j : Nat} (hj : j < (prL X).length) : (prL X).getD j 0 < X ∧ isP ((prL X).getD j 0) = true := by
  apply prL_mem.1
  rw [List.getD_eq_getElem?_getD, List.getElem?_eq_getElem hj]
  exact List.getElem_mem hj
/-- None of the first j primes divides X; the next one's square is more, or there is none. -/
theorem isP_list {X j : Nat} (hX : 2 ≤ X) (h : ∀ i, i < j → X % (prL X).getD i 0 ≠ 0) (he : (prL X).length ≤ j ∨ X < (prL X).getD j 0 * (prL X).getD j 0) : isP X = true := by
  refine isP_of hX fun p hp h1 => ?_
  obtain ⟨i, hi, rfl⟩ := List.getElem_of_mem hp
  have e : (prL X)[i] = (prL X).getD i 0 := by rw [List.getD_eq_getElem?_getD, List.getElem?_eq_getElem hi]; rfl
  rw [e] at h1 ⊢
  rcases Nat.lt_or_ge i j with h2 | h2
  · exact h i h2
  · rcases he with h3 | h3
    · omega
    · have h4 := prL_sorted h2 hi
      have := Nat.mul_le_mul h4 h4
      omega
/-! ### The 1000th prime -/
def qp (X : Nat) : Nat → Nat → Bool
  | _, 0 => true
  | d, k + 1 => bif Nat.blt X (d * d) then true else bif Nat.beq (X % d) 0 then false else qp X (d + 1) k
theorem qp_all (X : Nat) : ∀ k d, qp X d k = true ↔ ∀ e, d ≤ e → e < d + k → e * e ≤ X → X % e ≠ 0
  | 0, d => by simp [qp]; omega
  | k + 1, d => by
    rw [qp]
    cases h : Nat.blt X (d * d) with
    | true =>
      have h' : X < d * d := by rw [Nat.blt_eq] at h; exact h
      simp only [cond_true, true_iff]
      intro e h1 h2 h3
      have := Nat.mul_le_mul h1 h1; omega
    | false =>
      have h' : ¬ X < d * d := fun hc => by
        have h1 : Nat.blt X (d * d) = true := by rw [Nat.blt_eq]; exact hc
        rw [h1] at h; cases h
      cases h2 : Nat.beq (X % d) 0 with
      | true =>
        have h3 : X % d = 0 := Nat.eq_of_beq_eq_true h2
        simp only [cond_true, cond_false]
        constructor
        · intro hc; cases hc
        · intro hc; exact absurd h3 (hc d (Nat.le_refl _) (by omega) (by omega))
      | false =>
        have h3 : X % d ≠ 0 := fun hc => by rw [hc] at h2; cases h2
        simp only [cond_false]
        rw [qp_all X k (d + 1)]
        constructor
        · intro hc e h4 h5 h6
          rcases Nat.lt_or_eq_of_le h4 with h7 | rfl
          · exact hc e h7 (by omega) h6
          · exact h3
        · intro hc e h4 h5 h6
          exact hc e (by omega) (by omega) h6
theorem isP_qp {X : Nat} (h2 : 2 ≤ X) (h : X < 10000) : isP X = qp X 2 98 := by
  rw [Bool.eq_iff_iff, isP_all, qp_all]
  constructor
  · rintro ⟨_, h1⟩ e he _ h3; exact h1 e he h3
  · intro h1
    refine ⟨h2, fun e he h3 => h1 e he ?_ h3⟩
    rcases Nat.lt_or_ge e 100 with h4 | h4
    · omega
    · have := Nat.mul_le_mul h4 h4; omega
def cntQ (a : Nat) : Nat → Nat
  | 0 => 0
  | k + 1 => cntQ a k + bif qp (a + k) 2 98 then 1 else 0
theorem prL_cnt (a : Nat) (ha : 2 ≤ a) : ∀ k, a + k ≤ 10000 → (prL (a + k)).length = (prL a).length + cntQ a k
  | 0, _ => rfl
  | k + 1, h => by
    have ih := prL_cnt a ha k (by omega)
    rw [← Nat.add_assoc, prL_succ, List.length_append, ih, cntQ, isP_qp (by omega) (by omega), Nat.add_assoc]
    congr 2
    cases qp (a + k) 2 98 <;> rfl
theorem cnt_all : cntQ 2 498 + cntQ 500 500 + cntQ 1000 500 + cntQ 1500 500 + cntQ 2000 500 + cntQ 2500 500 + cntQ 3000 500 + cntQ 3500 500 + cntQ 4000 500 + cntQ 4500 500 + cntQ 5000 500 + cntQ 5500 500 + cntQ 6000 500 + cntQ 6500 500 + cntQ 7000 500 + cntQ 7500 420 = 1000 := by decide +kernel
theorem prL_thousand : (prL 7920).length = 1000 := by
  have h0 : (prL 2).length = 0 := by rw [prL_two]; rfl
  have h1 := prL_cnt 2 (by omega) 498 (by omega)
  have h2 := prL_cnt 500 (by omega) 500 (by omega)
  have h3 := prL_cnt 1000 (by omega) 500 (by omega)
  have h4 := prL_cnt 1500 (by omega) 500 (by omega)
  have h5 := prL_cnt 2000 (by omega) 500 (by omega)
  have h6 := prL_cnt 2500 (by omega) 500 (by omega)
  have h7 := prL_cnt 3000 (by omega) 500 (by omega)
  have h8 := prL_cnt 3500 (by omega) 500 (by omega)
  have h9 := prL_cnt 4000 (by omega) 500 (by omega)
  have h10 := prL_cnt 4500 (by omega) 500 (by omega)
  have h11 := prL_cnt 5000 (by omega) 500 (by omega)
  have h12 := prL_cnt 5500 (by omega) 500 (by omega)
  have h13 := prL_cnt 6000 (by omega) 500 (by omega)
  have h14 := prL_cnt 6500 (by omega) 500 (by omega)
  have h15 := prL_cnt 7000 (by omega) 500 (by omega)
  have h16 := prL_cnt 7500 (by omega) 420 (by omega)
  have hc := cnt_all
  simp only [Nat.reduceAdd] at h1 h2 h3 h4 h5 h6 h7 h8 h9 h10 h11 h12 h13 h14 h15 h16
  omega
theorem prL_small {X : Nat} (h : (prL X).length < 1000) : X < 7920 := by
  rcases Nat.lt_or_ge X 7920 with h1 | h1
  · exact h1
  · obtain ⟨l, hl⟩ := prL_mono h1
    rw [hl, List.length_append, prL_thousand] at h; omega
end Go.Proofs.YtechcmjmdepglaaDoor
