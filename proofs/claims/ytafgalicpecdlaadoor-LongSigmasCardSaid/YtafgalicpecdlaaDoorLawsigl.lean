/- Layer 2: the laws on sigmas: each walk ends with true. -/
import Derived.Test.YtafgalicpecdlaaDoorLawl
import Derived.Test.YtafgalicpecdlaaDoorSigl
namespace Go.Proofs.YtafgalicpecdlaaDoor.L64
open Go.RowKit
set_option linter.unusedVariables false

set_option maxRecDepth 100000 in
set_option maxHeartbeats 1000000 in
theorem longSigmas_walk (w : World) (ht : SigTabs w) (n : Int) (h0 : -9223372036854775808 ≤ n) (h1 : n ≤ 9223372036854775807) (x : Nat) (hx : x < 18446744073709551616) :
    Calls Tryd.prog 3 #[.int .i64 n, .int .u64 (x : Int)] w fun e w' => e = .returned (.bool true) ∧ Below w.heap.size w w' := by
  have hb : Below w.heap.size w w := Below.refl _ _
  go_enter Tryd.func3, Tryd.ntmps3
  go_wp2_with (first
    | (go_at_call 5; refine (wakes_any _).mono ?_; rintro e w1 ⟨rfl, rfl⟩)
    | (go_at_call 6; refine (big_any n x hx _ (ht.below hb)).mono ?_; rintro e w1 ⟨rfl, hb1⟩; replace hb := hb.trans (hb1.mono hb.size); clear hb1)
    | (go_at_call 8; refine (small_any n x hx _ (ht.below hb)).mono ?_; rintro e w1 ⟨rfl, hb1⟩; replace hb := hb.trans (hb1.mono hb.size); clear hb1)
    | (go_at_call 7; refine (refBig_any n x hx _).mono ?_; rintro e w1 ⟨rfl, hb1⟩; replace hb := hb.trans (hb1.mono hb.size); clear hb1)
    | (go_at_call 9; refine (refSmall_any n x hx _).mono ?_; rintro e w1 ⟨rfl, hb1⟩; replace hb := hb.trans (hb1.mono hb.size); clear hb1))
  go_ret
  exact ⟨rfl, hb⟩

theorem shr_xor (x y k : Nat) : shr (x ^^^ y) k = shr x k ^^^ shr y k := Nat.xor_div_two_pow
theorem xor_mix (a b c a' b' c' : Nat) : (a ^^^ a') ^^^ (b ^^^ b') ^^^ (c ^^^ c') = (a ^^^ b ^^^ c) ^^^ (a' ^^^ b' ^^^ c') := by
  apply Nat.eq_of_testBit_eq
  intro i
  simp only [Nat.testBit_xor]
  cases a.testBit i <;> cases b.testBit i <;> cases c.testBit i <;> cases a'.testBit i <;> cases b'.testBit i <;> cases c'.testBit i <;> rfl
theorem bigN_xor (k : Int) (x y : Nat) (hx : x < 18446744073709551616) (hy : y < 18446744073709551616) : bigN k (x ^^^ y) = bigN k x ^^^ bigN k y := by
  unfold bigN
  have r := fun i hi => rot_xor (n := 64) (k := i) hx hy hi
  split
  · rw [r 28 (by omega), r 34 (by omega), r 39 (by omega), xor_mix]
  · split
    · rw [r 14 (by omega), r 18 (by omega), r 41 (by omega), xor_mix]
    · rfl
theorem smallN_xor (k : Int) (x y : Nat) (hx : x < 18446744073709551616) (hy : y < 18446744073709551616) : smallN k (x ^^^ y) = smallN k x ^^^ smallN k y := by
  unfold smallN
  have r := fun i hi => rot_xor (n := 64) (k := i) hx hy hi
  split
  · rw [r 1 (by omega), r 8 (by omega), shr_xor, xor_mix]
  · split
    · rw [r 19 (by omega), r 61 (by omega), shr_xor, xor_mix]
    · rfl

set_option maxRecDepth 100000 in
set_option maxHeartbeats 2000000 in
theorem longLinear_walk (w : World) (ht : SigTabs w) (x : Nat) (hx : x < 18446744073709551616) (y : Nat) (hy : y < 18446744073709551616) :
    Calls Tryd.prog 4 #[.int .u64 (x : Int), .int .u64 (y : Int)] w fun e w' => e = .returned (.bool true) ∧ Below w.heap.size w w' := by
  have e0 := xorI x y hx hy
  have e1 : ∀ k : Int, bits .xor .u64 ((bigN k x : Nat) : Int) ((bigN k y : Nat) : Int) = ((bigN k (x ^^^ y) : Nat) : Int) := fun k => by
    rw [xorI _ _ (bigN_lt hx) (bigN_lt hy), bigN_xor k x y hx hy]
  have e2 : ∀ k : Int, bits .xor .u64 ((smallN k x : Nat) : Int) ((smallN k y : Nat) : Int) = ((smallN k (x ^^^ y) : Nat) : Int) := fun k => by
    rw [xorI _ _ (smallN_lt hx) (smallN_lt hy), smallN_xor k x y hx hy]
  go_enter Tryd.func4, Tryd.ntmps4
  go_wp2_with (go_at_call 5; refine (wakes_any _).mono ?_; rintro e w1 ⟨rfl, rfl⟩)
  go_loopw [8] (fun i wr => ∃ k : Nat, k ≤ 2 ∧ i = .int .i64 k ∧ Below w.heap.size w wr) (fun i _ => 2 - (intOf i).toNat)
  case atStart => exact ⟨0, by omega, rfl, Below.refl _ _⟩
  case round =>
    obtain ⟨k, hk, rfl, hb⟩ := hrel
    by_cases hlt : k < 2
    · go_wp2_with (first
        | (go_at_call 6; first
            | (with_reducible refine (big_any k (x ^^^ y) (xor64 hx hy) _ (ht.below hb)).mono ?_)
            | (with_reducible refine (big_any k x hx _ (ht.below hb)).mono ?_)
            | (with_reducible refine (big_any k y hy _ (ht.below hb)).mono ?_)
           rintro e w1 ⟨rfl, hb1⟩; replace hb := hb.trans (hb1.mono hb.size); clear hb1)
        | (go_at_call 8; first
            | (with_reducible refine (small_any k (x ^^^ y) (xor64 hx hy) _ (ht.below hb)).mono ?_)
            | (with_reducible refine (small_any k x hx _ (ht.below hb)).mono ?_)
            | (with_reducible refine (small_any k y hy _ (ht.below hb)).mono ?_)
           rintro e w1 ⟨rfl, hb1⟩; replace hb := hb.trans (hb1.mono hb.size); clear hb1))
      go_roundw
      case rel => exact ⟨k + 1, by omega, by go_num, hb⟩
      case measure => simp [intOf]; omega
    · go_wp2
      go_ret
      exact ⟨rfl, hb⟩
end Go.Proofs.YtafgalicpecdlaaDoor.L64
