/- Layer 3: load: what each call tells. -/
import Derived.Test.YthdnolhbefikoaaRows
import Derived.Test.YthdnolhbefikoaaBytes
namespace Go.Proofs.Ythdnolhbefikoaa
open Go.RowKit
set_option linter.unusedVariables false

theorem or_step32 (z y : Nat) (hy : y < 256) : bits .or .u32 (((z % 4294967296 : Nat) : Int) * 256 % 4294967296) (y : Int) = (((z * 256 + y) % 4294967296 : Nat) : Int) := by
  have e : ((z % 4294967296 : Nat) : Int) * 256 % 4294967296 = (((z % 4294967296) * 256 % 4294967296 : Nat) : Int) := by omega
  rw [e, u32_or_nat _ _ (Nat.mod_lt _ (by omega)) (by omega)]
  have h := shl_or z y 32 hy (by omega)
  rw [show (2 : Nat) ^ 32 = 4294967296 from rfl] at h
  rw [Nat.mod_mul_mod, h]
theorem or_step64 (z y : Nat) (hy : y < 256) : bits .or .u64 (((z % 18446744073709551616 : Nat) : Int) * 256 % 18446744073709551616) (y : Int) = (((z * 256 + y) % 18446744073709551616 : Nat) : Int) := by
  have e : ((z % 18446744073709551616 : Nat) : Int) * 256 % 18446744073709551616 = (((z % 18446744073709551616) * 256 % 18446744073709551616 : Nat) : Int) := by omega
  rw [e, u64_or_nat _ _ (Nat.mod_lt _ (by omega)) (by omega)]
  have h := shl_or z y 64 hy (by omega)
  rw [show (2 : Nat) ^ 64 = 18446744073709551616 from rfl] at h
  rw [Nat.mod_mul_mod, h]
set_option maxRecDepth 100000 in
set_option maxHeartbeats 400000 in
theorem len64_64 (w : World) : Calls Try.prog 35 #[.int .u64 18446744073709551615] w fun e w' => e = .returned (.int .i64 64) ∧ w = w' := by
  go_enter Try.func35, Try.ntmps35
  go_wp2
  go_ret
  exact ⟨by kernel_rfl, rfl⟩
set_option maxHeartbeats 400000 in
theorem size64_any (w : World) : Calls Try.prog 40 #[] w fun e w' => e = .returned (.int .i64 8) ∧ w = w' := by
  go_enter Try.func40, Try.ntmps40
  go_wp2_with (go_at_call 35; refine (len64_64 _).mono ?_; rintro e w' ⟨rfl, rfl⟩)
  go_ret
  exact ⟨rfl, rfl⟩
end Go.Proofs.Ythdnolhbefikoaa
