/- Layer 2: word: what each call tells. -/
import Derived.Test.YtknogmianfnfoaaDoorRows
import Derived.Test.YtknogmianfnfoaaDoorBase
namespace Go.Proofs.YtknogmianfnfoaaDoor.L64
open Go.RowKit
set_option linter.unusedVariables false

/-! ### Picks -/
def chN (x y z : Nat) : Nat := x &&& y ||| (18446744073709551615 ^^^ x) &&& z
theorem ch_bit (x y z i : Nat) (h : i < 64) : (chN x y z).testBit i = if x.testBit i then y.testBit i else z.testBit i := by
  unfold chN
  have := ones_bit 64 i h
  rw [show 2 ^ 64 - 1 = 18446744073709551615 from rfl] at this
  rw [Nat.testBit_or, Nat.testBit_and, Nat.testBit_and, Nat.testBit_xor, this]
  cases x.testBit i <;> cases y.testBit i <;> cases z.testBit i <;> rfl
theorem ch_bitI (x y z i : Nat) (h : i < 64) : bitI (chN x y z) i = if bitI x i = 1 then bitI y i else bitI z i := by
  rw [bitI_eq, bitI_eq, bitI_eq, bitI_eq, ch_bit _ _ _ _ h]
  cases x.testBit i <;> cases y.testBit i <;> cases z.testBit i <;> rfl
theorem chN_lt {x y z : Nat} (hx : x < 18446744073709551616) : chN x y z < 18446744073709551616 :=
  or64 (and64 y hx) (and64 z (xor64 (by omega) hx))
theorem majN_lt {x y z : Nat} (hx : x < 18446744073709551616) (hy : y < 18446744073709551616) : majN x y z < 18446744073709551616 :=
  or64 (or64 (and64 y hx) (and64 z hx)) (and64 z hy)

theorem turn_by (n : Int) : ∃ k : Nat, (IntKind.u64.wrap n).tmod 64 = (k : Int) ∧ k < 64 ∧ turnBy 64 n = k := by
  refine ⟨turnBy 64 n, ?_, turnBy_lt n (by omega), rfl⟩
  rw [IntKind.wrap_u64, Int.tmod_eq_emod_of_nonneg (by omega)]
  unfold turnBy
  omega

set_option maxRecDepth 100000 in
set_option maxHeartbeats 400000 in
theorem turn_any (x : Nat) (hx : x < 18446744073709551616) (n : Int) (w : World) :
    Calls Tryd.prog 57 #[.int .u64 (x : Int), .int .i64 n] w fun e w' => e = .returned (.int .u64 (rot 64 x (turnBy 64 n) : Nat)) ∧ w = w' := by
  obtain ⟨k, hk, hlt, e⟩ := turn_by n
  rw [e]; clear e
  go_enter Tryd.func57, Tryd.ntmps57
  go_wp2
  go_ret
  refine ⟨ret_int ?_, rfl⟩
  have a1 : x / 2 ^ k < 18446744073709551616 := Nat.lt_of_le_of_lt (Nat.div_le_self _ _) hx
  have a2 : x * 2 ^ (64 - k) % 18446744073709551616 < 18446744073709551616 := Nat.mod_lt _ (by omega)
  have a3 := u64_or_nat _ _ a1 a2
  simp only [Int.natCast_ediv, Int.natCast_pow, Int.natCast_emod, Int.natCast_mul, Int.cast_ofNat_Int] at a3
  rw [IntKind.wrap_u64, a3]; rfl
def sumN (l : List Nat) : Nat := l.foldl (fun a x => (a + x) % 18446744073709551616) 0
theorem sumN_snoc (l : List Nat) (x : Nat) : sumN (l ++ [x]) = (sumN l + x) % 18446744073709551616 := by simp [sumN]
theorem sumN_lt (l : List Nat) : sumN l < 18446744073709551616 := by
  rcases List.eq_nil_or_concat l with rfl | ⟨l, x, rfl⟩
  · simp [sumN]
  · rw [List.concat_eq_append, sumN_snoc]; omega

end Go.Proofs.YtknogmianfnfoaaDoor.L64
