/- Layer 5: what the program's roots tell; the laws on whole roots and on order. -/
import Derived.Test.YtbnldkknkjdkbaaRootof
namespace Go.Proofs.Ytbnldkknkjdkbaa
open Go.RowKit
set_option linter.unusedVariables false
set_option linter.unusedSimpArgs false

/-- R is 2^64 times the n-th root of p, cut. -/
def IsRoot (n p R : Nat) : Prop := R < 37778931862957161709568 ∧ R ^ n ≤ p * 18446744073709551616 ^ n ∧ p * 18446744073709551616 ^ n < (R + 1) ^ n
theorem IsRoot.le {n p q R S : Nat} (h : IsRoot n p R) (h' : IsRoot n q S) (hpq : p ≤ q) : R ≤ S := by
  rcases Nat.lt_or_ge S R with h1 | h1
  · exact absurd (Nat.le_trans (Nat.pow_le_pow_left (show S + 1 ≤ R from h1) n) (Nat.le_trans h.2.1 (Nat.mul_le_mul_right _ hpq))) (by have := h'.2.2; omega)
  · exact h1
theorem IsRoot.uniq {n p R S : Nat} (h : IsRoot n p R) (h' : IsRoot n p S) : R = S := Nat.le_antisymm (h.le h' (Nat.le_refl _)) (h'.le h (Nat.le_refl _))
theorem rootTo_all {T n : Nat} : ∀ k R, RootTo T n R k → ∃ S, RootTo T n S 0
  | 0, R, h => ⟨R, h⟩
  | k + 1, R, h => by
    rcases Nat.lt_or_ge T ((R + 2 ^ k) ^ n) with h1 | h1
    · exact rootTo_all k R (rootTo_no h h1)
    · exact rootTo_all k _ (rootTo_yes h h1)
theorem root_is {p n : Nat} (hn2 : 2 ≤ n) (hn : n ≤ 3) (hp : p ≤ 1048576) : ∃ R, IsRoot n p R := by
  obtain ⟨S, h1, h2, h3, h4⟩ := rootTo_all 75 0 (rootTo_start (by omega) (target_lt hn2 hn hp).1)
  exact ⟨S, by omega, h3, h4⟩
theorem whole_root {n p R : Nat} (h : IsRoot n p R) : (R / 18446744073709551616) ^ n ≤ p ∧ p < (R / 18446744073709551616 + 1) ^ n := by
  obtain ⟨h1, h2, h3⟩ := h
  have hQ : 0 < 18446744073709551616 ^ n := Nat.pow_pos (by omega)
  constructor
  · apply Nat.le_of_mul_le_mul_right _ hQ
    rw [← Nat.mul_pow]
    exact Nat.le_trans (Nat.pow_le_pow_left (Nat.div_mul_le_self _ _) n) h2
  · apply Nat.lt_of_mul_lt_mul_right (a := 18446744073709551616 ^ n)
    rw [← Nat.mul_pow]
    exact Nat.lt_of_lt_of_le h3 (Nat.pow_le_pow_left (by omega) n)
theorem whole_root_lt {n p R : Nat} (h : IsRoot n p R) : R / 18446744073709551616 < 2048 := by have := h.1; omega
theorem dgQ_one {n p R : Nat} (h : IsRoot n p R) : dgQ R 1 = R / 18446744073709551616 := by have := h.1; unfold dgQ; rw [Nat.pow_one]; omega
theorem dgQ_nil (R : Nat) : dgQ R 0 = R % 18446744073709551616 := by unfold dgQ; rw [Nat.pow_zero, Nat.div_one]
/-- A greater number's root is greater. -/
theorem IsRoot.lt {n p q R S : Nat} (hn2 : 2 ≤ n) (hn : n ≤ 3) (h : IsRoot n p R) (h' : IsRoot n q S) (hpq : p < q) : R < S := by
  rcases Nat.lt_or_ge R S with h1 | h1
  · exact h1
  · have h2 : (S + 1) ^ n ≤ (R + 1) ^ n := Nat.pow_le_pow_left (by omega) n
    have h3 : (p + 1) * 18446744073709551616 ^ n ≤ q * 18446744073709551616 ^ n := Nat.mul_le_mul_right _ hpq
    have h4 := h'.2.2
    have h5 := h.2.1
    have h6 := h.1
    have hx : R * R ≤ 37778931862957161709568 * 37778931862957161709568 := Nat.mul_le_mul (by omega) (by omega)
    rw [Nat.add_mul, Nat.one_mul] at h3
    rcases (show n = 2 ∨ n = 3 by omega) with rfl | rfl
    · have e : (R + 1) ^ 2 = R ^ 2 + 2 * R + 1 := by rw [Nat.pow_two, Nat.pow_two, Nat.add_mul, Nat.mul_add]; omega
      rw [e] at h2
      omega
    · have e : (R + 1) ^ 3 = R ^ 3 + 3 * (R * R) + 3 * R + 1 := by
        simp only [show ∀ x : Nat, x ^ 3 = x * x * x from fun x => by rw [Nat.pow_succ, Nat.pow_two], Nat.mul_add, Nat.add_mul, Nat.mul_one, Nat.one_mul]; omega
      rw [e] at h2
      omega
theorem square_is (p R : Nat) (hp : p ≤ 1048576) (h : IsRoot 2 p R) (w : World) :
    Calls Try.prog 9 #[.int .u64 (p : Int)] w fun e w' => e = .returned (.int .u64 (dgQ R 0 : Nat)) ∧ Below w.heap.size w w' := by
  have HR := Lib.hid (rootOf_any p 2 (by omega) (by omega) hp w)
  have hix := fun S W => index_num (dgQ S) 0 (by omega) W
  have HI := Lib.hid h
  clear h
  simp only [Int.natCast_zero] at hix
  go_enter Try.func9, Try.ntmps9
  go_wp2_with fail
  refine HR.out.mono ?_
  rintro e w1 ⟨⟨S, h1, h2, h3, rfl⟩, hb⟩
  obtain rfl : S = R := IsRoot.uniq ⟨h1, h2, h3⟩ HI.out
  have HB := Lib.hid hb
  clear h1 h2 h3 hb
  unfold numV
  go_wp2
  go_ret
  exact ⟨rfl, HB.out⟩
theorem cube_is (p R : Nat) (hp : p ≤ 1048576) (h : IsRoot 3 p R) (w : World) :
    Calls Try.prog 11 #[.int .u64 (p : Int)] w fun e w' => e = .returned (.int .u64 (dgQ R 0 : Nat)) ∧ Below w.heap.size w w' := by
  have HR := Lib.hid (rootOf_any p 3 (by omega) (by omega) hp w)
  have hix := fun S W => index_num (dgQ S) 0 (by omega) W
  have HI := Lib.hid h
  clear h
  simp only [Int.natCast_zero] at hix
  go_enter Try.func11, Try.ntmps11
  go_wp2_with fail
  refine HR.out.mono ?_
  rintro e w1 ⟨⟨S, h1, h2, h3, rfl⟩, hb⟩
  obtain rfl : S = R := IsRoot.uniq ⟨h1, h2, h3⟩ HI.out
  have HB := Lib.hid hb
  clear h1 h2 h3 hb
  unfold numV
  go_wp2
  go_ret
  exact ⟨rfl, HB.out⟩
theorem whole_is (p R S : Nat) (hp : p ≤ 1048576) (h : IsRoot 2 p R) (h' : IsRoot 3 p S) (w : World) :
    Calls Try.prog 8 #[.int .u64 (p : Int)] w fun e w' => e = .returned (.tuple #[.int .u64 (R / 18446744073709551616 : Nat), .int .u64 (S / 18446744073709551616 : Nat)]) ∧ Below w.heap.size w w' := by
  rw [← dgQ_one h, ← dgQ_one h']
  have HR := Lib.hid (rootOf_any p 2 (by omega) (by omega) hp w)
  have HR' := Lib.hid (fun W => rootOf_any p 3 (by omega) (by omega) hp W)
  have hix := fun S W => index_num (dgQ S) 1 (by omega) W
  have HI := Lib.hid h
  have HI' := Lib.hid h'
  clear h h'
  rw [Int.natCast_one] at hix
  go_enter Try.func8, Try.ntmps8
  go_wp2_with fail
  refine HR.out.mono ?_
  rintro e w1 ⟨⟨R1, h1, h2, h3, rfl⟩, hb⟩
  obtain rfl : R1 = R := IsRoot.uniq ⟨h1, h2, h3⟩ HI.out
  have HB := Lib.hid hb
  clear h1 h2 h3 hb
  unfold numV
  go_wp2_with fail
  refine (HR'.out w1).mono ?_
  rintro e w2 ⟨⟨S1, h1, h2, h3, rfl⟩, hb⟩
  obtain rfl : S1 = S := IsRoot.uniq ⟨h1, h2, h3⟩ HI'.out
  have HB2 := Lib.hid (HB.out.trans (hb.mono HB.out.size))
  clear h1 h2 h3 hb
  unfold numV
  go_wp2
  go_ret2
  exact ⟨rfl, HB2.out⟩
set_option maxHeartbeats 2000000 in
theorem wakesR_any (w : World) : Calls Try.prog 7 #[] w fun e w' => e = .returned (.bool true) ∧ Below w.heap.size w w' := by
  have H1 := fun W => square_is 2 26087635650665564424 (by omega) ⟨by decide +kernel, by decide +kernel, by decide +kernel⟩ W
  have H2 := fun W => cube_is 2 23241441160490167842 (by omega) ⟨by decide +kernel, by decide +kernel, by decide +kernel⟩ W
  have H3 := fun W => square_is 4 36893488147419103232 (by omega) ⟨by decide +kernel, by decide +kernel, by decide +kernel⟩ W
  have H4 := fun W => cube_is 8 36893488147419103232 (by omega) ⟨by decide +kernel, by decide +kernel, by decide +kernel⟩ W
  rw [show dgQ 26087635650665564424 0 = 7640891576956012808 by decide +kernel] at H1
  rw [show dgQ 23241441160490167842 0 = 4794697086780616226 by decide +kernel] at H2
  rw [show dgQ 36893488147419103232 0 = 0 by decide +kernel] at H3 H4
  have G1 := Lib.hid H1
  have G2 := Lib.hid H2
  have G3 := Lib.hid H3
  have G4 := Lib.hid H4
  clear H1 H2 H3 H4
  go_enter Try.func7, Try.ntmps7
  go_wp2_with fail
  refine (G1.out _).mono ?_
  rintro e w1 ⟨rfl, hb1⟩
  have B1 := Lib.hid hb1
  clear hb1
  go_wp2_with fail
  refine (G2.out _).mono ?_
  rintro e w2 ⟨rfl, hb2⟩
  have B2 := Lib.hid (B1.out.trans (hb2.mono B1.out.size))
  clear hb2
  go_wp2_with fail
  refine (G3.out _).mono ?_
  rintro e w3 ⟨rfl, hb3⟩
  have B3 := Lib.hid (B2.out.trans (hb3.mono B2.out.size))
  clear hb3
  go_wp2_with fail
  refine (G4.out _).mono ?_
  rintro e w4 ⟨rfl, hb4⟩
  have B4 := Lib.hid (B3.out.trans (hb4.mono B3.out.size))
  clear hb4
  go_wp2
  go_ret
  exact ⟨rfl, B4.out⟩
theorem mulC (a b : Nat) : (a : Int) * (b : Int) = ((a * b : Nat) : Int) := (Int.natCast_mul a b).symm
theorem sq_le {a p : Nat} (h : a ^ 2 ≤ p) (hp : p ≤ 1048576) : a ≤ 1024 := by
  rcases Nat.lt_or_ge a 1025 with h1 | h1
  · omega
  · have := Nat.mul_le_mul h1 h1; rw [Nat.pow_two] at h; omega
theorem cb_le {a p : Nat} (h : a ^ 3 ≤ p) (hp : p ≤ 1048576) : a ≤ 101 := by
  rcases Nat.lt_or_ge a 102 with h1 | h1
  · omega
  · have := Nat.mul_le_mul (Nat.mul_le_mul h1 h1) h1; rw [Nat.pow_succ, Nat.pow_two] at h; omega
set_option maxHeartbeats 4000000 in
theorem rootWholes_walk (w : World) (n : Nat) (hn : n < 4294967296) : Calls Try.prog 6 #[.int .u32 (n : Int)] w fun e w' => e = .returned (.bool true) ∧ Below w.heap.size w w' := by
  obtain ⟨p, hp⟩ : ∃ p, p = n % 1048577 := ⟨_, rfl⟩
  have hpb : p ≤ 1048576 := by omega
  have e1 : (n : Int) % 1048577 = (p : Int) := by omega
  obtain ⟨R, hR⟩ := root_is (n := 2) (by omega) (by omega) hpb
  obtain ⟨S, hS⟩ := root_is (n := 3) (by omega) (by omega) hpb
  have HW := Lib.hid (fun W => whole_is p R S hpb hR hS W)
  obtain ⟨a1, a2⟩ := whole_root hR
  obtain ⟨b1, b2⟩ := whole_root hS
  clear hR hS hp
  generalize R / 18446744073709551616 = a at *
  generalize S / 18446744073709551616 = b at *
  have ha := sq_le a1 hpb
  have hb := cb_le b1 hpb
  rw [Nat.pow_two] at a1 a2
  rw [Nat.pow_succ, Nat.pow_two] at b1 b2
  have hb3 : b * b ≤ 101 * 101 := Nat.mul_le_mul hb hb
  have ha3 : (a + 1) * (a + 1) ≤ 1025 * 1025 := Nat.mul_le_mul (by omega) (by omega)
  have hb4 : (b + 1) * (b + 1) ≤ 102 * 102 := Nat.mul_le_mul (by omega) (by omega)
  have hb5 : (b + 1) * (b + 1) * (b + 1) ≤ 102 * 102 * 102 := Nat.mul_le_mul hb4 (by omega)
  have x1 := mulC a a
  have x2 := mulC b b
  have x3 := mulC (b * b) b
  have x4 := mulC (a + 1) (a + 1)
  have x5 := mulC (b + 1) (b + 1)
  have x6 := mulC ((b + 1) * (b + 1)) (b + 1)
  generalize hq1 : b * b * b = b3 at *
  generalize hq2 : b * b = bb at *
  generalize hq3 : a * a = aa at *
  generalize hq4 : (b + 1) * (b + 1) * (b + 1) = c3 at *
  generalize hq5 : (b + 1) * (b + 1) = cc at *
  generalize hq6 : (a + 1) * (a + 1) = dd at *
  simp only [Int.natCast_add, Int.natCast_one] at x4 x5 x6
  clear hq1 hq2 hq3 hq4 hq5 hq6
  go_enter Try.func6, Try.ntmps6
  go_wp2_with fail
  refine (wakesR_any _).mono ?_
  rintro e w1 ⟨rfl, hb1⟩
  have B1 := Lib.hid hb1
  clear hb1
  go_wp2_with fail
  refine (HW.out _).mono ?_
  rintro e w2 ⟨rfl, hb2⟩
  have B2 := Lib.hid (B1.out.trans (hb2.mono B1.out.size))
  clear hb2
  go_wp2
  go_ret
  exact ⟨rfl, B2.out⟩
end Go.Proofs.Ytbnldkknkjdkbaa
