/- Layer 12: the steps: a round's constant. -/
import Derived.Test.YtknogmianfnfoaaDoorStepa
namespace Go.Proofs.YtknogmianfnfoaaDoor.L64
open Go.RowKit
set_option linter.unusedVariables false
set_option linter.unusedSimpArgs false
/-- The constant of a round, of any number. -/
def constI (r : Int) : Nat := if 0 ≤ r ∧ r < 24 then constN r.toNat else 0
theorem constI_lt (r : Int) : constI r < 18446744073709551616 := by
  unfold constI
  split
  · exact constN_lt _
  · decide
theorem constI_nat {r : Nat} (h : r < 24) : constI (r : Int) = constN r := by unfold constI; rw [if_pos (by omega)]; rfl
theorem constI_out {r : Int} (h : ¬ (0 ≤ r ∧ r < 24)) : constI r = 0 := if_neg h
theorem shift_to (k : Nat) (h : k < 7) : min (IntKind.u64.wrap (IntKind.u64.wrap ((2 : Int) ^ k) - 1)).toNat 64 = 2 ^ k - 1 :=
  (by decide +kernel : ∀ k, k < 7 → min (IntKind.u64.wrap (IntKind.u64.wrap ((2 : Int) ^ k) - 1)).toNat 64 = 2 ^ k - 1) k h
theorem constant_bit (c v k : Nat) (h : k < 7) (hc : c < 18446744073709551616) (hv : v < 256) :
    bits BinOp.or IntKind.u64 (c : Int) (IntKind.u64.wrap ((v : Int) % 2 * 2 ^ min (IntKind.u64.wrap (IntKind.u64.wrap ((2 : Int) ^ k) - 1)).toNat 64)) = ((c ||| v % 2 * 2 ^ (2 ^ k - 1) : Nat) : Int) := by
  rw [shift_to k h]
  have h2 : v % 2 < 2 := Nat.mod_lt _ (by omega)
  have h3 : (2 : Nat) ^ k ≤ 2 ^ 6 := Nat.pow_le_pow_right (by omega) (by omega)
  have h4 : (2 : Nat) ^ (2 ^ k - 1) ≤ 2 ^ 63 := Nat.pow_le_pow_right (by omega) (by omega)
  have h5 : v % 2 * 2 ^ (2 ^ k - 1) ≤ 1 * 2 ^ 63 := Nat.mul_le_mul (by omega) h4
  have e : IntKind.u64.wrap ((v : Int) % 2 * 2 ^ (2 ^ k - 1)) = ((v % 2 * 2 ^ (2 ^ k - 1) : Nat) : Int) := by
    have : (v : Int) % 2 * 2 ^ (2 ^ k - 1) = ((v % 2 * 2 ^ (2 ^ k - 1) : Nat) : Int) := by simp
    rw [this, IntKind.wrap_u64]
    omega
  rw [e]
  exact u64_or_nat _ _ hc (by omega)
set_option maxRecDepth 20000 in
set_option maxHeartbeats 2000000 in
theorem constant_in (r : Nat) (hr : r < 24) (w : World) : Calls Tryd.prog 50 #[.int .i64 (r : Int)] w fun e w' => e = .returned (.int .u64 (constN r : Nat)) ∧ w = w' := by
  have HC := Lib.hid (cP_full r hr)
  have HS := Lib.hid (fun n W => stepped_any n W)
  go_enter Tryd.func50, Tryd.ntmps50
  go_wp2_with fail
  go_loopg [3, 15] (7 * r) (fun g v i wr => ∃ k : Nat, k + g = 7 * r ∧ i = .int .i64 (k : Nat) ∧ v = .int .u64 (rcS k : Nat) ∧ w = wr)
  case atStart => exact ⟨0, by omega, rfl, rfl, rfl⟩
  case round =>
    obtain ⟨k, hk, rfl, rfl, rfl⟩ := hrel
    by_cases hlt : k < 7 * r
    · obtain ⟨g, rfl⟩ : ∃ g, gk = g + 1 := ⟨gk - 1, by omega⟩
      have H1 := Lib.hid (fun W => HS.out k W)
      have hv := rcS_lt k
      obtain ⟨v1, hv1⟩ : ∃ v1, v1 = rcS (k + 1) := ⟨_, rfl⟩
      rw [← hv1] at H1
      have HV := Lib.hid hv1
      clear hv1
      generalize rcS k = v at *
      go_wp2_with fail
      refine (H1.out _).mono ?_
      rintro e w5 ⟨rfl, rfl⟩
      go_wp2_with fail
      go_roundg g
      case measure => omega
      case rel => exact ⟨k + 1, by omega, by go_num, by rw [HV.out], rfl⟩
    · obtain rfl : k = 7 * r := by omega
      go_wp2_with fail
      go_loopg [3, 4, 20] 7 (fun g v c i wr => ∃ k : Nat, k + g = 7 ∧ i = .int .i64 (k : Nat) ∧ v = .int .u64 (rcS (7 * r + k) : Nat) ∧ c = .int .u64 (cP r k : Nat) ∧ w = wr)
      case atStart => exact ⟨0, by omega, rfl, rfl, rfl, rfl⟩
      case round =>
        obtain ⟨k, hk, rfl, rfl, rfl, rfl⟩ := hrel
        by_cases hlt : k < 7
        · obtain ⟨g, rfl⟩ : ∃ g, gk = g + 1 := ⟨gk - 1, by omega⟩
          have H1 := Lib.hid (fun W => HS.out (7 * r + k) W)
          have hv := rcS_lt (7 * r + k)
          have hc := cP_lt r k (by omega)
          obtain ⟨v1, hv1⟩ : ∃ v1, v1 = rcS (7 * r + k + 1) := ⟨_, rfl⟩
          rw [← hv1] at H1
          have HV := Lib.hid hv1
          have HP : Hid (cP r (k + 1) = cP r k ||| (rcS (7 * r + k) % 2) * 2 ^ (2 ^ k - 1)) := rfl
          clear hv1
          generalize rcS (7 * r + k) = v at *
          obtain ⟨c1, hc1⟩ : ∃ c1, c1 = cP r (k + 1) := ⟨_, rfl⟩
          rw [← hc1] at HP
          have HC1 := Lib.hid hc1
          clear hc1
          generalize cP r k = c at *
          have hp := Nat.pow_le_pow_right (n := 2) (by omega) (show k ≤ 6 by omega)
          go_wp2_with fail
          refine (H1.out _).mono ?_
          rintro e w5 ⟨rfl, rfl⟩
          go_wp2_with fail
          go_roundg g
          case measure => omega
          case rel => exact ⟨k + 1, by omega, by go_num, by rw [show 7 * r + (k + 1) = 7 * r + k + 1 from rfl, HV.out], by rw [← HC1.out, HP.out]; exact congrArg (Value.int .u64) (constant_bit c v k hlt hc hv), rfl⟩
        · obtain rfl : k = 7 := by omega
          rw [HC.out]
          go_wp2_with fail
          go_ret
          exact ⟨rfl, rfl⟩
theorem constant_any (r : Int) (w : World) : Calls Tryd.prog 50 #[.int .i64 r] w fun e w' => e = .returned (.int .u64 (constI r : Nat)) ∧ w = w' := by
  by_cases h : 0 ≤ r ∧ r < 24
  · obtain ⟨k, rfl⟩ := Int.eq_ofNat_of_zero_le h.1
    have := constant_in k (by omega) w
    rw [constI_nat (by omega)]
    exact this
  · have HE := Lib.hid (constI_out h)
    by_cases h0 : r < 0
    · clear h
      go_enter Tryd.func50, Tryd.ntmps50
      go_wp2
      go_ret
      exact ⟨by rw [HE.out]; rfl, rfl⟩
    · have h24 : 24 ≤ r := by omega
      clear h
      go_enter Tryd.func50, Tryd.ntmps50
      go_wp2
      go_ret
      exact ⟨by rw [HE.out]; rfl, rfl⟩
end Go.Proofs.YtknogmianfnfoaaDoor.L64
