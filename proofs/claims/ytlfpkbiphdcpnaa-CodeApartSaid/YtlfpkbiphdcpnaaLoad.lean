/- Layer 3: load: what each call tells. -/
import Derived.Test.YtlfpkbiphdcpnaaRows
import Derived.Test.YtlfpkbiphdcpnaaBytes
namespace Go.Proofs.Ytlfpkbiphdcpnaa
open Go.RowKit
set_option linter.unusedVariables false

theorem or_step32 (z y : Nat) (hy : y < 256) : bits .or .u32 (((z % 4294967296 : Nat) : Int) * 256 % 4294967296) (y : Int) = (((z * 256 + y) % 4294967296 : Nat) : Int) := by
  have e : ((z % 4294967296 : Nat) : Int) * 256 % 4294967296 = (((z % 4294967296) * 256 % 4294967296 : Nat) : Int) := by omega
  rw [e, u32_or_nat _ _ (Nat.mod_lt _ (by omega)) (by omega)]
  have h := shl_or z y 32 hy (by omega)
  rw [show (2 : Nat) ^ 32 = 4294967296 from rfl] at h
  rw [Nat.mod_mul_mod, h]
theorem or_step64 (z y : Nat) (hy : y < 256) : bits .or .u64 (((z % 18446744073709551616 : Nat) : Int) * 256 % 18446744073709551616) (y : Int) = (((z * 256 + y) % 18446744073709551616 : Nat) : Int) := by
  have e : ((z % 18446744073709551616 : Nat) : Int) * 256 % 18446744073709551616 = (((z % 18446744073709551616) * 256 % 18446744073709551616 : Nat) : Int) := by omega
  rw [e, u64_or_nat _ _ (Nat.mod_lt _ (by omega)) (by omega)]
  have h := shl_or z y 64 hy (by omega)
  rw [show (2 : Nat) ^ 64 = 18446744073709551616 from rfl] at h
  rw [Nat.mod_mul_mod, h]
set_option maxRecDepth 100000 in
set_option maxHeartbeats 400000 in
theorem len64_64 (w : World) : Calls Try.prog 29 #[.int .u64 18446744073709551615] w fun e w' => e = .returned (.int .i64 64) ∧ w = w' := by
  go_enter Try.func29, Try.ntmps29
  go_wp2
  go_ret
  exact ⟨by kernel_rfl, rfl⟩
set_option maxHeartbeats 400000 in
theorem size64_any (w : World) : Calls Try.prog 40 #[] w fun e w' => e = .returned (.int .i64 8) ∧ w = w' := by
  go_enter Try.func40, Try.ntmps40
  go_wp2_with (go_at_call 29; refine (len64_64 _).mono ?_; rintro e w' ⟨rfl, rfl⟩)
  go_ret
  exact ⟨rfl, rfl⟩
set_option maxHeartbeats 400000 in
theorem great64_any (A : Option Addr) (c : Nat) (xs : List Nat) (hx : AllLt 256 xs) (hl : xs.length ≤ maxLen) (w : World) (hw : Words .u8 w A xs) :
    Calls Try.prog 39 #[.slice A xs.length c] w fun e w' => e = .returned (.int .u64 (be xs % 18446744073709551616 : Nat)) ∧ w = w' := by
  unfold maxLen at hl
  go_enter Try.func39, Try.ntmps39
  go_wp2
  go_loop [3, 8] (fun s i => ∃ k : Nat, k ≤ xs.length ∧ i = .int .i64 k ∧ s = .int .u64 (be (xs.take k) % 18446744073709551616 : Nat)) (fun _ i => xs.length - (intOf i).toNat)
  case atStart => exact ⟨0, Nat.zero_le _, rfl, rfl⟩
  case round =>
    obtain ⟨k, hk, rfl, rfl⟩ := hrel
    by_cases hlt : k < xs.length
    · obtain ⟨b, o, rfl, hc⟩ := hw k hlt
      have HS := Lib.hid (be_take xs k hlt)
      have hg : xs.getD k 0 < 256 := hx.at hlt
      clear hx hw
      have HO := Lib.hid (or_step64 (be (xs.take k)) _ hg)
      generalize xs.getD k 0 = y at *
      generalize be (xs.take k) = z at *
      have hz : z % 18446744073709551616 < 18446744073709551616 := Nat.mod_lt _ (by omega)
      generalize z % 18446744073709551616 = u at *
      go_wp2
      go_round
      case rel => exact ⟨k + 1, by omega, by go_num, by rw [HS.out, ← HO.out]; try rw [IntKind.wrap_u64]⟩
      case measure => simp [intOf]; omega
    · go_wp2
      go_ret
      exact ⟨ret_int (by rw [List.take_of_length_le (by omega)]), rfl⟩
end Go.Proofs.Ytlfpkbiphdcpnaa
