/- Layer 5: what the program's roots tell; the laws on whole roots and on order. -/
import Derived.Test.YtechcmjmdepglaaDoorRootof
namespace Go.Proofs.YtechcmjmdepglaaDoor
open Go.RowKit
set_option linter.unusedVariables false
set_option linter.unusedSimpArgs false

/-- R is 2^64 times the n-th root of p, cut. -/
def IsRoot (n p R : Nat) : Prop := R < 37778931862957161709568 ∧ R ^ n ≤ p * 18446744073709551616 ^ n ∧ p * 18446744073709551616 ^ n < (R + 1) ^ n
theorem IsRoot.le {n p q R S : Nat} (h : IsRoot n p R) (h' : IsRoot n q S) (hpq : p ≤ q) : R ≤ S := by
  rcases Nat.lt_or_ge S R with h1 | h1
  · exact absurd (Nat.le_trans (Nat.pow_le_pow_left (show S + 1 ≤ R from h1) n) (Nat.le_trans h.2.1 (Nat.mul_le_mul_right _ hpq))) (by have := h'.2.2; omega)
  · exact h1
theorem IsRoot.uniq {n p R S : Nat} (h : IsRoot n p R) (h' : IsRoot n p S) : R = S := Nat.le_antisymm (h.le h' (Nat.le_refl _)) (h'.le h (Nat.le_refl _))
theorem rootTo_all {T n : Nat} : ∀ k R, RootTo T n R k → ∃ S, RootTo T n S 0
  | 0, R, h => ⟨R, h⟩
  | k + 1, R, h => by
    rcases Nat.lt_or_ge T ((R + 2 ^ k) ^ n) with h1 | h1
    · exact rootTo_all k R (rootTo_no h h1)
    · exact rootTo_all k _ (rootTo_yes h h1)
theorem root_is {p n : Nat} (hn2 : 2 ≤ n) (hn : n ≤ 3) (hp : p ≤ 1048576) : ∃ R, IsRoot n p R := by
  obtain ⟨S, h1, h2, h3, h4⟩ := rootTo_all 75 0 (rootTo_start (by omega) (target_lt hn2 hn hp).1)
  exact ⟨S, by omega, h3, h4⟩
theorem whole_root {n p R : Nat} (h : IsRoot n p R) : (R / 18446744073709551616) ^ n ≤ p ∧ p < (R / 18446744073709551616 + 1) ^ n := by
  obtain ⟨h1, h2, h3⟩ := h
  have hQ : 0 < 18446744073709551616 ^ n := Nat.pow_pos (by omega)
  constructor
  · apply Nat.le_of_mul_le_mul_right _ hQ
    rw [← Nat.mul_pow]
    exact Nat.le_trans (Nat.pow_le_pow_left (Nat.div_mul_le_self _ _) n) h2
  · apply Nat.lt_of_mul_lt_mul_right (a := 18446744073709551616 ^ n)
    rw [← Nat.mul_pow]
    exact Nat.lt_of_lt_of_le h3 (Nat.pow_le_pow_left (by omega) n)
theorem whole_root_lt {n p R : Nat} (h : IsRoot n p R) : R / 18446744073709551616 < 2048 := by have := h.1; omega
theorem dgQ_one {n p R : Nat} (h : IsRoot n p R) : dgQ R 1 = R / 18446744073709551616 := by have := h.1; unfold dgQ; rw [Nat.pow_one]; omega
theorem dgQ_nil (R : Nat) : dgQ R 0 = R % 18446744073709551616 := by unfold dgQ; rw [Nat.pow_zero, Nat.div_one]
/-- A greater number's root is greater. -/
theorem IsRoot.lt {n p q R S : Nat} (hn2 : 2 ≤ n) (hn : n ≤ 3) (h : IsRoot n p R) (h' : IsRoot n q S) (hpq : p < q) : R < S := by
  rcases Nat.lt_or_ge R S with h1 | h1
  · exact h1
  · have h2 : (S + 1) ^ n ≤ (R + 1) ^ n := Nat.pow_le_pow_left (by omega) n
    have h3 : (p + 1) * 18446744073709551616 ^ n ≤ q * 18446744073709551616 ^ n := Nat.mul_le_mul_right _ hpq
    have h4 := h'.2.2
    have h5 := h.2.1
    have h6 := h.1
    have hx : R * R ≤ 37778931862957161709568 * 37778931862957161709568 := Nat.mul_le_mul (by omega) (by omega)
    rw [Nat.add_mul, Nat.one_mul] at h3
    rcases (show n = 2 ∨ n = 3 by omega) with rfl | rfl
    · have e : (R + 1) ^ 2 = R ^ 2 + 2 * R + 1 := by rw [Nat.pow_two, Nat.pow_two, Nat.add_mul, Nat.mul_add]; omega
      rw [e] at h2
      omega
    · have e : (R + 1) ^ 3 = R ^ 3 + 3 * (R * R) + 3 * R + 1 := by
        simp only [show ∀ x : Nat, x ^ 3 = x * x * x from fun x => by rw [Nat.pow_succ, Nat.pow_two], Nat.mul_add, Nat.add_mul, Nat.mul_one, Nat.one_mul]; omega
      rw [e] at h2
      omega
theorem square_is (p R : Nat) (hp : p ≤ 1048576) (h : IsRoot 2 p R) (w : World) :
    Calls Tryd.prog 26 #[.int .u64 (p : Int)] w fun e w' => e = .returned (.int .u64 (dgQ R 0 : Nat)) ∧ Below w.heap.size w w' := by
  have HR := Lib.hid (rootOf_any p 2 (by omega) (by omega) hp w)
  have hix := fun S W => index_num (dgQ S) 0 (by omega) W
  have HI := Lib.hid h
  clear h
  simp only [Int.natCast_zero] at hix
  go_enter Tryd.func26, Tryd.ntmps26
  go_wp2_with fail
  refine HR.out.mono ?_
  rintro e w1 ⟨⟨S, h1, h2, h3, rfl⟩, hb⟩
  obtain rfl : S = R := IsRoot.uniq ⟨h1, h2, h3⟩ HI.out
  have HB := Lib.hid hb
  clear h1 h2 h3 hb
  unfold numV
  go_wp2
  go_ret
  exact ⟨rfl, HB.out⟩
theorem mulC (a b : Nat) : (a : Int) * (b : Int) = ((a * b : Nat) : Int) := (Int.natCast_mul a b).symm
theorem sq_le {a p : Nat} (h : a ^ 2 ≤ p) (hp : p ≤ 1048576) : a ≤ 1024 := by
  rcases Nat.lt_or_ge a 1025 with h1 | h1
  · omega
  · have := Nat.mul_le_mul h1 h1; rw [Nat.pow_two] at h; omega
theorem cb_le {a p : Nat} (h : a ^ 3 ≤ p) (hp : p ≤ 1048576) : a ≤ 101 := by
  rcases Nat.lt_or_ge a 102 with h1 | h1
  · omega
  · have := Nat.mul_le_mul (Nat.mul_le_mul h1 h1) h1; rw [Nat.pow_succ, Nat.pow_two] at h; omega
end Go.Proofs.YtechcmjmdepglaaDoor
