/- Layer 5: the law on the order of roots. -/
import Derived.Test.YtbnldkknkjdkbaaRootlaw
namespace Go.Proofs.Ytbnldkknkjdkbaa
open Go.RowKit
set_option linter.unusedVariables false
set_option linter.unusedSimpArgs false
/-- What the program tells of a number. -/
def Tells (p s c x y : Nat) : Prop :=
  (∀ W, Calls Try.prog 8 #[.int .u64 (p : Int)] W fun e w' => e = .returned (.tuple #[.int .u64 (s : Nat), .int .u64 (c : Nat)]) ∧ Below W.heap.size W w') ∧
  (∀ W, Calls Try.prog 9 #[.int .u64 (p : Int)] W fun e w' => e = .returned (.int .u64 (x : Nat)) ∧ Below W.heap.size W w') ∧
  (∀ W, Calls Try.prog 11 #[.int .u64 (p : Int)] W fun e w' => e = .returned (.int .u64 (y : Nat)) ∧ Below W.heap.size W w')
theorem order_facts (p q : Nat) (h : p ≤ q) (hq : q ≤ 1048576) : ∃ s c x y t d u v, Tells p s c x y ∧ Tells q t d u v ∧ s ≤ t ∧ c ≤ d ∧ s * s ≤ p ∧ c * c * c ≤ p ∧ s ≤ 1024 ∧ c ≤ 101 ∧ (p < q → s = t → x < u) ∧ (p < q → c = d → y < v) := by
  obtain ⟨R, hR⟩ := root_is (p := p) (n := 2) (by omega) (by omega) (by omega)
  obtain ⟨S, hS⟩ := root_is (p := p) (n := 3) (by omega) (by omega) (by omega)
  obtain ⟨R', hR'⟩ := root_is (p := q) (n := 2) (by omega) (by omega) hq
  obtain ⟨S', hS'⟩ := root_is (p := q) (n := 3) (by omega) (by omega) hq
  have a1 := (whole_root hR).1
  have b1 := (whole_root hS).1
  have ha := sq_le a1 (by omega)
  have hb := cb_le b1 (by omega)
  rw [Nat.pow_two] at a1
  rw [Nat.pow_succ, Nat.pow_two] at b1
  refine ⟨_, _, _, _, _, _, _, _, ⟨fun W => whole_is p R S (by omega) hR hS W, fun W => square_is p R (by omega) hR W, fun W => cube_is p S (by omega) hS W⟩,
    ⟨fun W => whole_is q R' S' hq hR' hS' W, fun W => square_is q R' hq hR' W, fun W => cube_is q S' hq hS' W⟩, Nat.div_le_div_right (hR.le hR' h), Nat.div_le_div_right (hS.le hS' h), a1, b1, ha, hb, fun h1 h2 => ?_, fun h1 h2 => ?_⟩
  · have := hR.lt (by omega) (by omega) hR' h1
    rw [dgQ_nil, dgQ_nil]; omega
  · have := hS.lt (by omega) (by omega) hS' h1
    rw [dgQ_nil, dgQ_nil]; omega

set_option maxHeartbeats 8000000 in
theorem rootOrder_walk (w : World) (a : Nat) (ha : a < 4294967296) (b : Nat) (hb : b < 4294967296) : Calls Try.prog 5 #[.int .u32 (a : Int), .int .u32 (b : Int)] w fun e w' => e = .returned (.bool true) ∧ Below w.heap.size w w' := by
  obtain ⟨p, hp⟩ : ∃ p, p = a % 1048577 := ⟨_, rfl⟩
  obtain ⟨q, hq⟩ : ∃ q, q = b % 1048577 := ⟨_, rfl⟩
  have hpb : p ≤ 1048576 := by omega
  have hqb : q ≤ 1048576 := by omega
  have e1 : (a : Int) % 1048577 = (p : Int) := by omega
  have e2 : (b : Int) % 1048577 = (q : Int) := by omega
  clear hp hq
  rcases Nat.lt_trichotomy p q with hlt | heq | hlt
  · obtain ⟨s, c, x, y, t, d, u, v, ⟨k1, k2, k3⟩, ⟨l1, l2, l3⟩, h1, h2, h3, h4, h5, h6, h7, h8⟩ := order_facts p q (by omega) (by omega)
    have HW1 := Lib.hid k1
    have HS1 := Lib.hid k2
    have HC1 := Lib.hid k3
    have HW2 := Lib.hid l1
    have HS2 := Lib.hid l2
    have HC2 := Lib.hid l3
    clear k1 k2 k3 l1 l2 l3
    have x1 := mulC s s
    have x2 := mulC c c
    have x3 := mulC (c * c) c
    have y3 : c * c ≤ 101 * 101 := Nat.mul_le_mul h6 h6
    generalize hq1 : c * c * c = c3 at *
    generalize hq2 : c * c = cc at *
    generalize hq3 : s * s = ss at *
    clear hq1 hq2 hq3
    have g1 := h7 (by omega)
    have g2 := h8 (by omega)
    clear h7 h8
    have hne : (((p : Nat) : Int) == ((q : Nat) : Int)) = false := by rw [beq_eq_false_iff_ne]; omega
    by_cases hst : s = t
    · have hk1 : ((s : Int) != (t : Int)) = false := by rw [hst]; simp
      have g4 := g1 hst
      clear g1 hst
      by_cases hcd : c = d
      · have hk2 : ((c : Int) != (d : Int)) = false := by rw [hcd]; simp
        have g3 := g2 hcd
        clear g2 hcd
        go_enter Try.func5, Try.ntmps5
        go_wp2_with fail
        refine (wakesR_any _).mono ?_
        rintro e w1 ⟨rfl, hb1⟩
        have B1 := Lib.hid hb1
        clear hb1
        go_wp2_with fail
        refine (HW1.out _).mono ?_
        rintro e w2 ⟨rfl, hb2⟩
        have B2 := Lib.hid (B1.out.trans (hb2.mono B1.out.size))
        clear hb2
        go_wp2_with fail
        refine (HW2.out _).mono ?_
        rintro e w3 ⟨rfl, hb3⟩
        have B3 := Lib.hid (B2.out.trans (hb3.mono B2.out.size))
        clear hb3
        go_wp2_with fail
        refine (HS1.out _).mono ?_
        rintro e w4 ⟨rfl, hb4⟩
        have B4 := Lib.hid (B3.out.trans (hb4.mono B3.out.size))
        clear hb4
        go_wp2_with fail
        refine (HS2.out _).mono ?_
        rintro e w5 ⟨rfl, hb5⟩
        have B5 := Lib.hid (B4.out.trans (hb5.mono B4.out.size))
        clear hb5
        go_wp2_with fail
        refine (HC1.out _).mono ?_
        rintro e w6 ⟨rfl, hb6⟩
        have B6 := Lib.hid (B5.out.trans (hb6.mono B5.out.size))
        clear hb6
        go_wp2_with fail
        refine (HC2.out _).mono ?_
        rintro e w7 ⟨rfl, hb7⟩
        have B7 := Lib.hid (B6.out.trans (hb7.mono B6.out.size))
        clear hb7
        go_wp2
        go_ret
        exact ⟨rfl, B7.out⟩
      · have hk2 : ((c : Int) != (d : Int)) = true := by rw [bne_iff_ne]; omega
        clear g2 hcd
        go_enter Try.func5, Try.ntmps5
        go_wp2_with fail
        refine (wakesR_any _).mono ?_
        rintro e w1 ⟨rfl, hb1⟩
        have B1 := Lib.hid hb1
        clear hb1
        go_wp2_with fail
        refine (HW1.out _).mono ?_
        rintro e w2 ⟨rfl, hb2⟩
        have B2 := Lib.hid (B1.out.trans (hb2.mono B1.out.size))
        clear hb2
        go_wp2_with fail
        refine (HW2.out _).mono ?_
        rintro e w3 ⟨rfl, hb3⟩
        have B3 := Lib.hid (B2.out.trans (hb3.mono B2.out.size))
        clear hb3
        go_wp2_with fail
        refine (HS1.out _).mono ?_
        rintro e w4 ⟨rfl, hb4⟩
        have B4 := Lib.hid (B3.out.trans (hb4.mono B3.out.size))
        clear hb4
        go_wp2_with fail
        refine (HS2.out _).mono ?_
        rintro e w5 ⟨rfl, hb5⟩
        have B5 := Lib.hid (B4.out.trans (hb5.mono B4.out.size))
        clear hb5
        go_wp2
        go_ret
        exact ⟨rfl, B5.out⟩
    · have hk1 : ((s : Int) != (t : Int)) = true := by rw [bne_iff_ne]; omega
      clear g1 hst
      by_cases hcd : c = d
      · have hk2 : ((c : Int) != (d : Int)) = false := by rw [hcd]; simp
        have g3 := g2 hcd
        clear g2 hcd
        go_enter Try.func5, Try.ntmps5
        go_wp2_with fail
        refine (wakesR_any _).mono ?_
        rintro e w1 ⟨rfl, hb1⟩
        have B1 := Lib.hid hb1
        clear hb1
        go_wp2_with fail
        refine (HW1.out _).mono ?_
        rintro e w2 ⟨rfl, hb2⟩
        have B2 := Lib.hid (B1.out.trans (hb2.mono B1.out.size))
        clear hb2
        go_wp2_with fail
        refine (HW2.out _).mono ?_
        rintro e w3 ⟨rfl, hb3⟩
        have B3 := Lib.hid (B2.out.trans (hb3.mono B2.out.size))
        clear hb3
        go_wp2_with fail
        refine (HC1.out _).mono ?_
        rintro e w4 ⟨rfl, hb4⟩
        have B4 := Lib.hid (B3.out.trans (hb4.mono B3.out.size))
        clear hb4
        go_wp2_with fail
        refine (HC2.out _).mono ?_
        rintro e w5 ⟨rfl, hb5⟩
        have B5 := Lib.hid (B4.out.trans (hb5.mono B4.out.size))
        clear hb5
        go_wp2
        go_ret
        exact ⟨rfl, B5.out⟩
      · have hk2 : ((c : Int) != (d : Int)) = true := by rw [bne_iff_ne]; omega
        clear g2 hcd
        go_enter Try.func5, Try.ntmps5
        go_wp2_with fail
        refine (wakesR_any _).mono ?_
        rintro e w1 ⟨rfl, hb1⟩
        have B1 := Lib.hid hb1
        clear hb1
        go_wp2_with fail
        refine (HW1.out _).mono ?_
        rintro e w2 ⟨rfl, hb2⟩
        have B2 := Lib.hid (B1.out.trans (hb2.mono B1.out.size))
        clear hb2
        go_wp2_with fail
        refine (HW2.out _).mono ?_
        rintro e w3 ⟨rfl, hb3⟩
        have B3 := Lib.hid (B2.out.trans (hb3.mono B2.out.size))
        clear hb3
        go_wp2
        go_ret
        exact ⟨rfl, B3.out⟩
  · subst heq
    obtain ⟨s, c, x, y, t, d, u, v, ⟨k1, k2, k3⟩, ⟨l1, l2, l3⟩, h1, h2, h3, h4, h5, h6, h7, h8⟩ := order_facts p p (by omega) (by omega)
    have HW1 := Lib.hid k1
    have HS1 := Lib.hid k2
    have HC1 := Lib.hid k3
    have HW2 := Lib.hid l1
    have HS2 := Lib.hid l2
    have HC2 := Lib.hid l3
    clear k1 k2 k3 l1 l2 l3
    have x1 := mulC s s
    have x2 := mulC c c
    have x3 := mulC (c * c) c
    have y3 : c * c ≤ 101 * 101 := Nat.mul_le_mul h6 h6
    generalize hq1 : c * c * c = c3 at *
    generalize hq2 : c * c = cc at *
    generalize hq3 : s * s = ss at *
    clear hq1 hq2 hq3
    clear h7 h8
    go_enter Try.func5, Try.ntmps5
    go_wp2_with fail
    refine (wakesR_any _).mono ?_
    rintro e w1 ⟨rfl, hb1⟩
    have B1 := Lib.hid hb1
    clear hb1
    go_wp2_with fail
    refine (HW1.out _).mono ?_
    rintro e w2 ⟨rfl, hb2⟩
    have B2 := Lib.hid (B1.out.trans (hb2.mono B1.out.size))
    clear hb2
    go_wp2_with fail
    refine (HW2.out _).mono ?_
    rintro e w3 ⟨rfl, hb3⟩
    have B3 := Lib.hid (B2.out.trans (hb3.mono B2.out.size))
    clear hb3
    go_wp2
    go_ret
    exact ⟨rfl, B3.out⟩
  · obtain ⟨s, c, x, y, t, d, u, v, ⟨k1, k2, k3⟩, ⟨l1, l2, l3⟩, h1, h2, h3, h4, h5, h6, h7, h8⟩ := order_facts q p (by omega) (by omega)
    have HW1 := Lib.hid k1
    have HS1 := Lib.hid k2
    have HC1 := Lib.hid k3
    have HW2 := Lib.hid l1
    have HS2 := Lib.hid l2
    have HC2 := Lib.hid l3
    clear k1 k2 k3 l1 l2 l3
    have x1 := mulC s s
    have x2 := mulC c c
    have x3 := mulC (c * c) c
    have y3 : c * c ≤ 101 * 101 := Nat.mul_le_mul h6 h6
    generalize hq1 : c * c * c = c3 at *
    generalize hq2 : c * c = cc at *
    generalize hq3 : s * s = ss at *
    clear hq1 hq2 hq3
    have g1 := h7 (by omega)
    have g2 := h8 (by omega)
    clear h7 h8
    have hne : (((q : Nat) : Int) == ((p : Nat) : Int)) = false := by rw [beq_eq_false_iff_ne]; omega
    by_cases hst : s = t
    · have hk1 : ((s : Int) != (t : Int)) = false := by rw [hst]; simp
      have g4 := g1 hst
      clear g1 hst
      by_cases hcd : c = d
      · have hk2 : ((c : Int) != (d : Int)) = false := by rw [hcd]; simp
        have g3 := g2 hcd
        clear g2 hcd
        go_enter Try.func5, Try.ntmps5
        go_wp2_with fail
        refine (wakesR_any _).mono ?_
        rintro e w1 ⟨rfl, hb1⟩
        have B1 := Lib.hid hb1
        clear hb1
        go_wp2_with fail
        refine (HW1.out _).mono ?_
        rintro e w2 ⟨rfl, hb2⟩
        have B2 := Lib.hid (B1.out.trans (hb2.mono B1.out.size))
        clear hb2
        go_wp2_with fail
        refine (HW2.out _).mono ?_
        rintro e w3 ⟨rfl, hb3⟩
        have B3 := Lib.hid (B2.out.trans (hb3.mono B2.out.size))
        clear hb3
        go_wp2_with fail
        refine (HS1.out _).mono ?_
        rintro e w4 ⟨rfl, hb4⟩
        have B4 := Lib.hid (B3.out.trans (hb4.mono B3.out.size))
        clear hb4
        go_wp2_with fail
        refine (HS2.out _).mono ?_
        rintro e w5 ⟨rfl, hb5⟩
        have B5 := Lib.hid (B4.out.trans (hb5.mono B4.out.size))
        clear hb5
        go_wp2_with fail
        refine (HC1.out _).mono ?_
        rintro e w6 ⟨rfl, hb6⟩
        have B6 := Lib.hid (B5.out.trans (hb6.mono B5.out.size))
        clear hb6
        go_wp2_with fail
        refine (HC2.out _).mono ?_
        rintro e w7 ⟨rfl, hb7⟩
        have B7 := Lib.hid (B6.out.trans (hb7.mono B6.out.size))
        clear hb7
        go_wp2
        go_ret
        exact ⟨rfl, B7.out⟩
      · have hk2 : ((c : Int) != (d : Int)) = true := by rw [bne_iff_ne]; omega
        clear g2 hcd
        go_enter Try.func5, Try.ntmps5
        go_wp2_with fail
        refine (wakesR_any _).mono ?_
        rintro e w1 ⟨rfl, hb1⟩
        have B1 := Lib.hid hb1
        clear hb1
        go_wp2_with fail
        refine (HW1.out _).mono ?_
        rintro e w2 ⟨rfl, hb2⟩
        have B2 := Lib.hid (B1.out.trans (hb2.mono B1.out.size))
        clear hb2
        go_wp2_with fail
        refine (HW2.out _).mono ?_
        rintro e w3 ⟨rfl, hb3⟩
        have B3 := Lib.hid (B2.out.trans (hb3.mono B2.out.size))
        clear hb3
        go_wp2_with fail
        refine (HS1.out _).mono ?_
        rintro e w4 ⟨rfl, hb4⟩
        have B4 := Lib.hid (B3.out.trans (hb4.mono B3.out.size))
        clear hb4
        go_wp2_with fail
        refine (HS2.out _).mono ?_
        rintro e w5 ⟨rfl, hb5⟩
        have B5 := Lib.hid (B4.out.trans (hb5.mono B4.out.size))
        clear hb5
        go_wp2
        go_ret
        exact ⟨rfl, B5.out⟩
    · have hk1 : ((s : Int) != (t : Int)) = true := by rw [bne_iff_ne]; omega
      clear g1 hst
      by_cases hcd : c = d
      · have hk2 : ((c : Int) != (d : Int)) = false := by rw [hcd]; simp
        have g3 := g2 hcd
        clear g2 hcd
        go_enter Try.func5, Try.ntmps5
        go_wp2_with fail
        refine (wakesR_any _).mono ?_
        rintro e w1 ⟨rfl, hb1⟩
        have B1 := Lib.hid hb1
        clear hb1
        go_wp2_with fail
        refine (HW1.out _).mono ?_
        rintro e w2 ⟨rfl, hb2⟩
        have B2 := Lib.hid (B1.out.trans (hb2.mono B1.out.size))
        clear hb2
        go_wp2_with fail
        refine (HW2.out _).mono ?_
        rintro e w3 ⟨rfl, hb3⟩
        have B3 := Lib.hid (B2.out.trans (hb3.mono B2.out.size))
        clear hb3
        go_wp2_with fail
        refine (HC1.out _).mono ?_
        rintro e w4 ⟨rfl, hb4⟩
        have B4 := Lib.hid (B3.out.trans (hb4.mono B3.out.size))
        clear hb4
        go_wp2_with fail
        refine (HC2.out _).mono ?_
        rintro e w5 ⟨rfl, hb5⟩
        have B5 := Lib.hid (B4.out.trans (hb5.mono B4.out.size))
        clear hb5
        go_wp2
        go_ret
        exact ⟨rfl, B5.out⟩
      · have hk2 : ((c : Int) != (d : Int)) = true := by rw [bne_iff_ne]; omega
        clear g2 hcd
        go_enter Try.func5, Try.ntmps5
        go_wp2_with fail
        refine (wakesR_any _).mono ?_
        rintro e w1 ⟨rfl, hb1⟩
        have B1 := Lib.hid hb1
        clear hb1
        go_wp2_with fail
        refine (HW1.out _).mono ?_
        rintro e w2 ⟨rfl, hb2⟩
        have B2 := Lib.hid (B1.out.trans (hb2.mono B1.out.size))
        clear hb2
        go_wp2_with fail
        refine (HW2.out _).mono ?_
        rintro e w3 ⟨rfl, hb3⟩
        have B3 := Lib.hid (B2.out.trans (hb3.mono B2.out.size))
        clear hb3
        go_wp2
        go_ret
        exact ⟨rfl, B3.out⟩
end Go.Proofs.Ytbnldkknkjdkbaa
