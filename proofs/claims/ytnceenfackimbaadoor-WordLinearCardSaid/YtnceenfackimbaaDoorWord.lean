/- Layer 1: word: what each call tells. -/
import Derived.Test.YtnceenfackimbaaDoorRows
import Derived.Test.YtnceenfackimbaaDoorBase
namespace Go.Proofs.YtnceenfackimbaaDoor
open Go.RowKit
set_option linter.unusedVariables false

theorem turn_by (n : Int) : ∃ k : Nat, (IntKind.u64.wrap n).tmod 32 = (k : Int) ∧ k < 32 ∧ turnBy 32 n = k := by
  refine ⟨turnBy 32 n, ?_, turnBy_lt n (by omega), rfl⟩
  rw [IntKind.wrap_u64, Int.tmod_eq_emod_of_nonneg (by omega)]
  unfold turnBy
  omega

set_option maxHeartbeats 400000 in
theorem turn_any (x : Nat) (hx : x < 4294967296) (n : Int) (w : World) :
    Calls Tryd.prog 10 #[.int .u32 (x : Int), .int .i64 n] w fun e w' => e = .returned (.int .u32 (rot 32 x (turnBy 32 n) : Nat)) ∧ w = w' := by
  obtain ⟨k, hk, hlt, e⟩ := turn_by n
  rw [e]; clear e
  go_enter Tryd.func10, Tryd.ntmps10
  go_wp2
  go_ret
  refine ⟨ret_int ?_, rfl⟩
  have a1 : x / 2 ^ k < 4294967296 := Nat.lt_of_le_of_lt (Nat.div_le_self _ _) hx
  have a2 : x * 2 ^ (32 - k) % 4294967296 < 4294967296 := Nat.mod_lt _ (by omega)
  have a3 := u32_or_nat _ _ a1 a2
  simp only [Int.natCast_ediv, Int.natCast_pow, Int.natCast_emod, Int.natCast_mul, Int.cast_ofNat_Int] at a3
  rw [a3]; rfl
set_option maxHeartbeats 400000 in
theorem shift_any (x : Nat) (hx : x < 4294967296) (n : Int) (h0 : -9223372036854775808 ≤ n) (h1 : n ≤ 9223372036854775807) (w : World) :
    Calls Tryd.prog 15 #[.int .u32 (x : Int), .int .i64 n] w fun e w' => e = .returned (.int .u32 (shr x n.toNat : Nat)) ∧ w = w' := by
  go_enter Tryd.func15, Tryd.ntmps15
  go_wp2
  · go_ret
    refine ⟨ret_int ?_, rfl⟩
    show (x : Int) = _
    rw [show n.toNat = 0 by omega, shr_zero]
  · go_ret
    refine ⟨ret_int ?_, rfl⟩
    obtain ⟨m, rfl⟩ := Int.eq_ofNat_of_zero_le (by assumption : 0 ≤ n)
    show (x : Int) / 2 ^ min m 32 = ((x / 2 ^ m : Nat) : Int)
    by_cases h : m ≤ 32
    · rw [Nat.min_eq_left h]; simp
    · rw [Nat.min_eq_right (by omega), Nat.div_eq_of_lt (Nat.lt_of_lt_of_le hx (Nat.pow_le_pow_right (n := 2) (by omega) (by omega : 32 ≤ m)))]
      omega
set_option maxHeartbeats 400000 in
theorem ch_any (x y z : Nat) (hx : x < 4294967296) (hy : y < 4294967296) (hz : z < 4294967296) (w : World) :
    Calls Tryd.prog 11 #[.int .u32 (x : Int), .int .u32 (y : Int), .int .u32 (z : Int)] w fun e w' => e = .returned (.int .u32 (chN x y z : Nat)) ∧ w = w' := by
  go_enter Tryd.func11, Tryd.ntmps11
  go_wp2
  go_ret
  refine ⟨ret_int ?_, rfl⟩
  have hm : IntKind.u32.max = ((4294967295 : Nat) : Int) := rfl
  have a1 := and32 y hx
  have a2 := xor32 (show 4294967295 < 4294967296 by omega) hx
  have a3 := and32 z a2
  rw [hm, u32_and_nat x y hx hy, u32_xor_nat _ x (by omega) hx, u32_and_nat _ z a2 hz, u32_or_nat _ _ a1 a3]; rfl
def sumN (l : List Nat) : Nat := l.foldl (fun a x => (a + x) % 4294967296) 0
theorem sumN_snoc (l : List Nat) (x : Nat) : sumN (l ++ [x]) = (sumN l + x) % 4294967296 := by simp [sumN]
theorem sumN_lt (l : List Nat) : sumN l < 4294967296 := by
  rcases List.eq_nil_or_concat l with rfl | ⟨l, x, rfl⟩
  · simp [sumN]
  · rw [List.concat_eq_append, sumN_snoc]; omega

end Go.Proofs.YtnceenfackimbaaDoor
