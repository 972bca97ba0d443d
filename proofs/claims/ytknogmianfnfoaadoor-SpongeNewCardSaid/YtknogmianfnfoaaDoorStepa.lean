/- Layer 12: the steps: places, turns, the register, the constants. -/
import Derived.Test.YtknogmianfnfoaaDoorLane
namespace Go.Proofs.YtknogmianfnfoaaDoor.L64
open Go.RowKit
set_option linter.unusedVariables false
set_option linter.unusedSimpArgs false
theorem tmod5 (n : Int) : -5 < n.tmod 5 ∧ n.tmod 5 < 5 ∧ (n.tmod 5 + 5) % 5 = n % 5 := by
  have h := @Int.tmod_eq_emod n 5
  by_cases h0 : 0 ≤ n ∨ (5 : Int) ∣ n
  · rw [if_pos h0] at h; rw [h]; omega
  · rw [if_neg h0] at h; rw [h]; simp; omega
set_option maxHeartbeats 1000000 in
theorem modulo_any (n : Int) (h0 : -9223372036854775808 ≤ n) (h1 : n ≤ 9223372036854775807) (w : World) : Calls Tryd.prog 56 #[.int .i64 n] w fun e w' => e = .returned (.int .i64 (n % 5)) ∧ w = w' := by
  obtain ⟨t, ht, hb0, hb1, hm⟩ : ∃ t : Int, n.tmod 5 = t ∧ -5 < t ∧ t < 5 ∧ (t + 5) % 5 = n % 5 := ⟨_, rfl, tmod5 n⟩
  have hm2 : (t + 5).tmod 5 = n % 5 := by rw [Int.tmod_eq_emod_of_nonneg (by omega)]; exact hm
  have hw : IntKind.i64.wrap (t + 5) = t + 5 := by rw [IntKind.wrap_i64]; omega
  go_enter Tryd.func56, Tryd.ntmps56
  go_wp2
  go_ret
  exact ⟨ret_int (by omega), rfl⟩
set_option maxHeartbeats 1000000 in
theorem placeP_any (x y : Nat) (hx : x < 1000) (hy : y < 1000) (w : World) : Calls Tryd.prog 51 #[.int .i64 (x : Int), .int .i64 (y : Int)] w fun e w' => e = .returned (.int .i64 (placeN x y : Nat)) ∧ w = w' := by
  have C1 := Lib.hid (fun W => modulo_any x (by omega) (by omega) W)
  have C2 := Lib.hid (fun W => modulo_any y (by omega) (by omega) W)
  go_enter Tryd.func51, Tryd.ntmps51
  go_wp2_with fail
  refine (C1.out _).mono ?_
  rintro e w5 ⟨rfl, rfl⟩
  go_wp2_with fail
  refine (C2.out _).mono ?_
  rintro e w6 ⟨rfl, rfl⟩
  go_wp2
  go_ret
  exact ⟨ret_int (by unfold placeN; omega), rfl⟩
/-- Turned to the left. -/
def rl (x n : Nat) : Nat := rot 64 x ((64 - n) % 64)
theorem rl_lt {x : Nat} (n : Nat) (hx : x < 18446744073709551616) : rl x n < 18446744073709551616 := rot64 hx
set_option maxHeartbeats 1000000 in
theorem turnLeft_any (x n : Nat) (hx : x < 18446744073709551616) (hn : n < 64) (w : World) : Calls Tryd.prog 52 #[.int .u64 (x : Int), .int .i64 (n : Int)] w fun e w' => e = .returned (.int .u64 (rl x n : Nat)) ∧ w = w' := by
  have C1 := Lib.hid (fun m W => turn_any x hx m W)
  have e : turnBy 64 (-(n : Int)) = (64 - n) % 64 := by unfold turnBy; omega
  have E : Hid (rl x n = rot 64 x (turnBy 64 (-(n : Int)))) := by unfold rl Hid; rw [e]
  clear e
  go_enter Tryd.func52, Tryd.ntmps52
  go_wp2_with fail
  refine (C1.out _ _).mono ?_
  rintro e w5 ⟨rfl, rfl⟩
  go_wp2
  go_ret
  exact ⟨ret_int (by rw [E.out]), rfl⟩
set_option maxRecDepth 20000 in
set_option maxHeartbeats 1000000 in
theorem stepped_any (n : Nat) (w : World) : Calls Tryd.prog 55 #[.int .u64 (rcS n : Nat)] w fun e w' => e = .returned (.int .u64 (rcS (n + 1) : Nat)) ∧ w = w' := by
  have hl := rcS_lt n
  by_cases h256 : 256 ≤ 2 * rcS n
  · have hS : Hid (rcS (n + 1) = (2 * rcS n - 256) ^^^ 113) := if_pos h256
    obtain ⟨y, hy⟩ : ∃ y, y = 2 * rcS n - 256 := ⟨_, rfl⟩
    have hyi : 2 * (rcS n : Int) - 256 = (y : Int) := by omega
    have hyi2 : (rcS n : Int) * 2 - 256 = (y : Int) := by omega
    have hyb : y < 256 := by omega
    rw [← hy] at hS
    clear hy
    generalize rcS n = r at *
    go_enter Tryd.func55, Tryd.ntmps55
    go_wp2
    go_ret
    refine ⟨ret_int ?_, rfl⟩
    have a3 := u64_xor_nat y 113 (by omega) (by omega)
    rw [hS.out, ← a3]; rfl
  · have hS : Hid (rcS (n + 1) = 2 * rcS n) := if_neg h256
    generalize rcS n = r at *
    go_enter Tryd.func55, Tryd.ntmps55
    go_wp2
    go_ret
    exact ⟨ret_int (by rw [hS.out]; omega), rfl⟩
end Go.Proofs.YtknogmianfnfoaaDoor.L64
