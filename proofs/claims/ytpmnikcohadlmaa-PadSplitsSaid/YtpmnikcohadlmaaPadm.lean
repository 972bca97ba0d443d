/- Layer 10: paddings, by words alone. No program is named here. -/
import Derived.Test.YtpmnikcohadlmaaBytes
namespace Go.Proofs.Ytpmnikcohadlmaa
open Go.RowKit
set_option linter.unusedVariables false
/-- How many noughts: r bytes are left over of the message, blocks of s bytes, t bytes for the length. -/
def padZ (r s t : Nat) : Nat := (2 * s - (r + 1 + t)) % s
theorem padZ_64 (r : Nat) (h : r < 64) : padZ r 64 8 = if r ≤ 55 then 55 - r else 119 - r := by unfold padZ; split <;> omega
theorem padZ_128 (r : Nat) (h : r < 128) : padZ r 128 16 = if r ≤ 111 then 111 - r else 239 - r := by unfold padZ; split <;> omega
theorem wrap64_small (n : Int) (h0 : 0 ≤ n) (h1 : n < 1000) : wrap64 n = n := by unfold wrap64; omega
theorem tmod_small (n : Nat) (m : Nat) : ((n : Int).tmod (m : Int)) = ((n % m : Nat) : Int) := by rw [Int.tmod_eq_emod_of_nonneg (by omega)]; rfl
/-- What the loop asks, as the walk has it. -/
theorem pad_test (r k s t : Nat) : (((r : Int) + ((k : Int) + 1) + (t : Int)) % (s : Int) != 0) = decide ((r + k + 1 + t) % s ≠ 0) := by
  rw [show (r : Int) + ((k : Int) + 1) + (t : Int) = ((r + k + 1 + t : Nat) : Int) by omega, ← Int.natCast_emod]
  rw [Bool.eq_iff_iff, bne_iff_ne, decide_eq_true_eq]
  omega
theorem padZ_lt {r s t : Nat} (hs : s = 64 ∨ s = 128) : padZ r s t < s := by unfold padZ; rcases hs with rfl | rfl <;> exact Nat.mod_lt _ (by omega)
theorem padZ_before {r s t k : Nat} (h : s = 64 ∧ t = 8 ∨ s = 128 ∧ t = 16) (hr : r < s) (hk : k < padZ r s t) : (r + k + 1 + t) % s ≠ 0 := by
  rcases h with ⟨rfl, rfl⟩ | ⟨rfl, rfl⟩
  · rw [padZ_64 r hr] at hk; split at hk <;> omega
  · rw [padZ_128 r hr] at hk; split at hk <;> omega
theorem padZ_end {r s t : Nat} (h : s = 64 ∧ t = 8 ∨ s = 128 ∧ t = 16) (hr : r < s) : (r + padZ r s t + 1 + t) % s = 0 := by
  rcases h with ⟨rfl, rfl⟩ | ⟨rfl, rfl⟩
  · rw [padZ_64 r hr]; split <;> omega
  · rw [padZ_128 r hr]; split <;> omega
/-- The padding of a message of V bytes. -/
def padL (V s : Nat) : List Nat := 128 :: (List.replicate (padZ (V % s) s (s / 8)) 0 ++ beB (s / 8) (8 * V))
def padOk (V : Nat) (m : Int) : Bool := decide ((m = 64 ∧ 8 * V < 18446744073709551616) ∨ (m = 128 ∧ 8 * V < 340282366920938463463374607431768211456))
theorem padL_length (V s : Nat) : (padL V s).length = 1 + padZ (V % s) s (s / 8) + s / 8 := by simp [padL, beB_length]; omega
theorem padL_facts {V s t : Nat} (h : s = 64 ∧ t = 8 ∨ s = 128 ∧ t = 16) : (V % s + (padL V s).length) % s = 0 ∧ t < (padL V s).length ∧ (padL V s).length ≤ s + t ∧ (padL V s).getD 0 0 = 128 := by
  have ht : s / 8 = t := by omega
  have hs : s = 64 ∨ s = 128 := by omega
  have hr : V % s < s := Nat.mod_lt _ (by omega)
  have h1 := padZ_end h hr
  have h2 := padZ_lt (r := V % s) (t := t) hs
  rw [padL_length, ht]
  refine ⟨?_, by omega, by omega, rfl⟩
  rw [← h1]
  congr 1
  omega
theorem padL_lt (V s : Nat) : AllLt 256 (padL V s) := fun x hx => by
  simp only [padL, List.mem_cons, List.mem_append, List.mem_replicate] at hx
  rcases hx with rfl | ⟨_, rfl⟩ | hx
  · omega
  · omega
  · exact beB_lt _ _ x hx
theorem beB_cut (n x : Nat) : beB n (x % 256 ^ n) = beB n x := by
  refine ext_getD (by simp [beB_length]) fun i hi => ?_
  rw [beB_length] at hi
  rw [beB_getD _ _ _ hi, beB_getD _ _ _ hi]
  obtain ⟨d, hd⟩ : ∃ d, n = (n - 1 - i) + 1 + d := ⟨n - ((n - 1 - i) + 1), by omega⟩
  have h : x % 256 ^ n / 256 ^ (n - 1 - i) % 256 = x / 256 ^ (n - 1 - i) % 256 := by
    generalize n - 1 - i = m at *
    rw [← Nat.mod_mul_right_div_self, ← Nat.mod_mul_right_div_self, ← Nat.pow_succ, Nat.mod_mod_of_dvd _ (Nat.pow_dvd_pow 256 (by omega))]
  exact h
theorem beB_join (a b hi lo : Nat) (hl : lo < 256 ^ b) : beB a hi ++ beB b lo = beB (a + b) (hi * 256 ^ b + lo) := by
  refine ext_getD (by simp [beB_length]) fun i h => ?_
  rw [List.length_append, beB_length, beB_length] at h
  rw [beB_getD _ _ _ h, List.getD_eq_getElem?_getD]
  by_cases hi' : i < a
  · rw [List.getElem?_append_left (by rw [beB_length]; exact hi'), ← List.getD_eq_getElem?_getD, beB_getD _ _ _ hi']
    have e : a + b - 1 - i = b + (a - 1 - i) := by omega
    rw [e, Nat.pow_add, ← Nat.div_div_eq_div_mul]
    have e2 : (hi * 256 ^ b + lo) / 256 ^ b = hi := by
      rw [Nat.mul_comm, Nat.mul_add_div (Nat.pow_pos (by omega)), Nat.div_eq_of_lt hl, Nat.add_zero]
    rw [e2]
  · rw [List.getElem?_append_right (by rw [beB_length]; omega), beB_length, ← List.getD_eq_getElem?_getD, beB_getD _ _ _ (by omega)]
    have e : a + b - 1 - i = b - 1 - (i - a) := by omega
    rw [e]
    generalize hm : b - 1 - (i - a) = m
    obtain ⟨d, rfl⟩ : ∃ d, b = m + 1 + d := ⟨b - (m + 1), by omega⟩
    have e3 : hi * 256 ^ (m + 1 + d) + lo = 256 ^ m * (256 * (hi * 256 ^ d)) + lo := by
      rw [Nat.pow_add, Nat.pow_succ]
      have : hi * (256 ^ m * 256 * 256 ^ d) = 256 ^ m * (256 * (hi * 256 ^ d)) := by
        rw [Nat.mul_assoc, Nat.mul_left_comm, Nat.mul_left_comm hi 256]
      rw [this]
    rw [e3, Nat.mul_add_div (Nat.pow_pos (by omega)), Nat.mul_add_mod]
/-- As it grows: noughts, one by one. -/
def padUp (k : Nat) : List Nat := 128 :: List.replicate k 0
theorem padUp_length (k : Nat) : (padUp k).length = k + 1 := by simp [padUp]
theorem padUp_zero : padUp 0 = [128] := rfl
theorem padUp_succ (k : Nat) : padUp (k + 1) = padUp k ++ [0] := by simp [padUp, List.replicate_succ']
theorem padUp_lt (k : Nat) : AllLt 256 (padUp k) := fun x hx => by
  simp only [padUp, List.mem_cons, List.mem_replicate] at hx
  rcases hx with rfl | ⟨_, rfl⟩ <;> omega
theorem padL_up (V s : Nat) : padL V s = padUp (padZ (V % s) s (s / 8)) ++ beB (s / 8) (8 * V) := rfl
theorem padL_inj {V W s : Nat} (hV : 8 * V < 256 ^ (s / 8)) (hW : 8 * W < 256 ^ (s / 8)) (h : padL V s = padL W s) : V = W := by
  rw [padL_up, padL_up] at h
  have h2 := (List.append_inj' h (by rw [beB_length, beB_length])).2
  have h3 := congrArg be h2
  rw [be_beB, be_beB, Nat.mod_eq_of_lt hV, Nat.mod_eq_of_lt hW] at h3
  omega
end Go.Proofs.Ytpmnikcohadlmaa
