/- Layer 4: math/bits' division of 128 bits by a number of 31. -/
import Derived.Test.YtpmnikcohadlmaaRefcntc
import Derived.Lib.Walk
import Derived.Lib.Small
import Derived.Lib.Strings
import Derived.Lib.BitFns
namespace Go.Proofs.Ytpmnikcohadlmaa
open Go.RowKit
set_option linter.unusedVariables false
theorem len8tab_int : (Lib.len8tab.size : Int) = 256 := by rw [Lib.len8tab_size]; rfl
attribute [local go_sem] len8tab_int
theorem len8_at (i : Int) (h0 : 0 ≤ i) (h1 : i ≤ 255) (h : i.toNat < Lib.len8tab.size) : (Lib.len8tab[i.toNat].toNat : Int) = Lib.bitLen i.toNat := by
  rw [← Lib.len8_of i h0 h1, Lib.len8, ByteArray.getElem?_lt' _ _ h]; rfl
theorem len8_wrap (a i : Int) (h0 : 0 ≤ i) (h1 : i ≤ 255) (h : i.toNat < Lib.len8tab.size) (ha0 : 0 ≤ a) (ha : a ≤ 24) : wrap64 (a + wrap64 (Lib.len8tab[i.toNat].toNat : Int)) = a + Lib.bitLen i.toNat := by
  have hb := Lib.bitLen_le8' i h0 h1
  rw [len8_at i h0 h1 h]; unfold wrap64; omega
set_option maxHeartbeats 4000000 in
set_option maxRecDepth 100000 in
theorem len64_any (x : Nat) (h1 : x < 4294967296) (w : World) :
    Calls Try.prog 35 #[.int .u64 (x : Int)] w fun e w' => e = .returned (.int .i64 (Lib.bitLen x)) ∧ w = w' := by
  obtain ⟨X, hX⟩ : ∃ X : Int, X = x := ⟨_, rfl⟩
  rw [← hX, show x = X.toNat by omega]
  have h0 : 0 ≤ X := by omega
  have h2 : X < 4294967296 := by omega
  clear hX h1
  go_enter Try.func35, Try.ntmps35
  go_wp2
  all_goals (go_ret; refine ⟨congrArg Ending.returned (congrArg (Value.int IntKind.i64) ?_), rfl⟩)
  · rw [len8_wrap 24 _ (by omega) (by omega) _ (by omega) (by omega), show (X / 65536 / 256).toNat = X.toNat / 16777216 by omega, Lib.bitLen_shift24 X.toNat (by omega) (by omega)]; omega
  · rw [len8_wrap 16 _ (by omega) (by omega) _ (by omega) (by omega), show (X / 65536).toNat = X.toNat / 65536 by omega, Lib.bitLen_shift16 X.toNat (by omega) (by omega)]; omega
  · rw [len8_wrap 8 _ (by omega) (by omega) _ (by omega) (by omega), show (X / 256).toNat = X.toNat / 256 by omega, Lib.bitLen_shift8 X.toNat (by omega) (by omega)]; omega
  · have h := len8_wrap 0 X (by omega) (by omega) (by rw [Lib.len8tab_size]; omega) (by omega) (by omega)
    rw [Int.zero_add] at h
    rw [h]; omega
theorem leading_any (x : Nat) (h1 : x < 4294967296) (w : World) :
    Calls Try.prog 34 #[.int .u64 (x : Int)] w fun e w' => e = .returned (.int .i64 (64 - Lib.bitLen x)) ∧ w = w' := by
  have hb : Lib.bitLen x ≤ 32 := Lib.bitLen_le x 32 (by omega) h1
  have HL := Lib.hid (len64_any x h1)
  generalize Lib.bitLen x = b at *
  go_enter Try.func34, Try.ntmps34
  go_wp2_with (go_at_call 35; refine (HL.out _).mono ?_; rintro e w' ⟨rfl, rfl⟩)
  go_ret
  exact ⟨rfl, rfl⟩
theorem up_math {hi lo y s : Nat} (hs : s < 64) (hs0 : 33 ≤ s) (hY : y * 2 ^ s < 18446744073709551616) (hh : hi < y) (hl : lo < 18446744073709551616) :
    ∃ a L d : Nat, a < y * 2 ^ s ∧ L < 18446744073709551616 ∧ (hi * 18446744073709551616 + lo) * 2 ^ s = a * 18446744073709551616 + L ∧ y * 2 ^ s = d * 4294967296 ∧
      bits BinOp.or .u64 (IntKind.u64.wrap ((hi : Int) * 2 ^ s)) ((lo : Int) / 2 ^ (64 - s)) = (a : Int) ∧ IntKind.u64.wrap ((lo : Int) * 2 ^ s) = (L : Int) := by
  obtain ⟨M, hM⟩ : ∃ M, M = 2 ^ (64 - s) := ⟨_, rfl⟩
  have hPM : 2 ^ s * M = 18446744073709551616 := by rw [hM, ← Nat.pow_add, show s + (64 - s) = 64 by omega]
  have hP : 2 ^ s = 2 ^ (s - 32) * 4294967296 := by rw [show (4294967296 : Nat) = 2 ^ 32 from rfl, ← Nat.pow_add]; congr 1; omega
  have hM0 : 0 < M := hM ▸ Nat.two_pow_pos _
  have hP0 : 0 < 2 ^ s := Nat.two_pow_pos _
  have hdiv : lo / M < 2 ^ s := by rw [Nat.div_lt_iff_lt_mul hM0, hPM]; exact hl
  have hlo : lo * 2 ^ s = lo / M * 18446744073709551616 + lo % M * 2 ^ s := by
    rw [← hPM, Nat.mul_comm (2 ^ s) M, ← Nat.mul_assoc, ← Nat.add_mul, Nat.mul_comm (lo / M), Nat.div_add_mod]
  have hmod : lo % M * 2 ^ s < 18446744073709551616 := by
    rw [← hPM, Nat.mul_comm (2 ^ s)]; exact Nat.mul_lt_mul_of_pos_right (Nat.mod_lt _ hM0) hP0
  have hhi : (hi + 1) * 2 ^ s ≤ y * 2 ^ s := Nat.mul_le_mul_right _ hh
  rw [Nat.add_mul, Nat.one_mul] at hhi
  refine ⟨hi * 2 ^ s + lo / M, lo % M * 2 ^ s, y * 2 ^ (s - 32), by omega, hmod, ?_, ?_, ?_, ?_⟩
  · rw [Nat.add_mul, hlo, Nat.mul_right_comm, Nat.add_mul]; omega
  · rw [Nat.mul_assoc, ← hP]
  · have e1 : IntKind.u64.wrap ((hi : Int) * 2 ^ s) = ((hi * 2 ^ s : Nat) : Int) := by
      rw [IntKind.wrap_u64, Int.natCast_mul, Int.natCast_pow, Int.emod_eq_of_lt]
      · rfl
      · exact Int.mul_nonneg (by omega) (Int.le_of_lt (Int.pow_pos (by omega)))
      · have : ((hi * 2 ^ s : Nat) : Int) < 18446744073709551616 := by omega
        rw [Int.natCast_mul, Int.natCast_pow] at this; exact this
    have e2 : (lo : Int) / 2 ^ (64 - s) = ((lo / M : Nat) : Int) := by rw [hM, Int.natCast_ediv, Int.natCast_pow]; rfl
    rw [e1, e2, u64_or_nat _ _ (by omega) (by omega), Nat.mul_comm hi, ← Nat.two_pow_add_eq_or_of_lt hdiv]
  · rw [IntKind.wrap_u64, show (lo : Int) * 2 ^ s = ((lo * 2 ^ s : Nat) : Int) by rw [Int.natCast_mul, Int.natCast_pow]; rfl, hlo]
    omega
theorem mod_digits (X r d B : Nat) (hr : r < B) : (X * B + r) % (d * B) = X % d * B + r := by
  rw [Nat.mul_comm d B, Nat.mod_mul, Nat.mul_comm X B, Nat.mul_add_mod, Nat.mod_eq_of_lt hr, Nat.mul_add_div (by omega), Nat.div_eq_of_lt hr, Nat.add_zero, Nat.mul_comm B, Nat.add_comm]
/-- Long division by a number whose lower half is nought. -/
theorem long_of (B y P a u1 u0 d V : Nat) (hP : 0 < P) (hu : u0 < B) (hd : y * P = d * B) (hV : V * P = (a * B + u1) * B + u0) :
    ((a % d * B + u1) % d * B + u0) / P = V % y := by
  have h1 : V % y = V * P % (y * P) / P := by rw [Nat.mul_mod_mul_right, Nat.mul_div_cancel _ hP]
  rw [h1, hV, hd, mod_digits _ _ _ _ hu]
  congr 3
  rw [Nat.add_mod, Nat.mod_mul_mod, ← Nat.add_mod]
theorem long_math {y s a L d V : Nat} (hd : y * 2 ^ s = d * 4294967296) (hV : V * 2 ^ s = a * 18446744073709551616 + L) :
    ((a % d * 4294967296 + L / 4294967296) % d * 4294967296 + L % 4294967296) / 2 ^ s = V % y :=
  long_of 4294967296 y (2 ^ s) a (L / 4294967296) (L % 4294967296) d V (Nat.two_pow_pos s) (Nat.mod_lt _ (by omega)) hd (by rw [hV]; omega)
theorem bitLen_up : ∀ y : Nat, y < 2 ^ 64 → y < 2 ^ Lib.bitLen y := fun y => by
  induction y using Nat.strongRecOn with
  | _ y ih =>
    intro h
    by_cases h0 : y = 0
    · subst h0; exact Nat.two_pow_pos _
    · have h1 := ih (y / 2) (by omega) (by omega)
      rw [Lib.bitLen_half y h0 h, Nat.pow_add]
      omega
/-- By how much a word is moved up. -/
theorem up_by (y : Nat) (h0 : 0 < y) (hy : y < 2147483648) : ∃ s : Nat, (64 : Int) - Lib.bitLen y = s ∧ 33 ≤ s ∧ s < 64 ∧ y * 2 ^ s < 18446744073709551616 := by
  have h1 : Lib.bitLen y ≤ 31 := Lib.bitLen_le y 31 (by omega) hy
  have h2 := Lib.bitLen_half y (by omega) (Nat.lt_trans hy (by decide))
  have h3 := bitLen_up y (Nat.lt_trans hy (by decide))
  refine ⟨64 - Lib.bitLen y, by omega, by omega, by omega, ?_⟩
  have h4 : 2 ^ Lib.bitLen y * 2 ^ (64 - Lib.bitLen y) = 18446744073709551616 := by rw [← Nat.pow_add, show Lib.bitLen y + (64 - Lib.bitLen y) = 64 by omega]
  rw [← h4]
  exact Nat.mul_lt_mul_of_pos_right h3 (Nat.two_pow_pos _)
theorem wrap_nat (x : Nat) (h : x < 18446744073709551616) : IntKind.u64.wrap (x : Int) = x := by rw [IntKind.wrap_u64]; omega
/-- One digit of long division. -/
theorem digit_math {a d : Nat} (h0 : 0 < d) (hd : d < 4294967296) (ha : a < d * 4294967296) :
    IntKind.u64.wrap ((a : Int) / (d : Int)) = ((a / d : Nat) : Int) ∧ IntKind.u64.wrap ((a : Int) - IntKind.u64.wrap (((a / d : Nat) : Int) * (d : Int))) = ((a % d : Nat) : Int) ∧ a / d < 4294967296 ∧ a % d < 4294967296 := by
  have h1 : a / d < 4294967296 := by rw [Nat.div_lt_iff_lt_mul h0, Nat.mul_comm]; exact ha
  have h2 := Nat.div_add_mod a d
  have h3 := Nat.mod_lt a h0
  have h4 : d * 4294967296 < 18446744073709551616 := by omega
  have e : ((a / d : Nat) : Int) * (d : Int) = ((d * (a / d) : Nat) : Int) := by rw [Nat.mul_comm, Int.natCast_mul]
  refine ⟨?_, ?_, h1, by omega⟩
  · rw [← Int.natCast_ediv, wrap_nat _ (by omega)]
  · rw [e, wrap_nat _ (by omega), IntKind.wrap_u64]; omega
theorem wraps (a z r u B M : Int) (ha : a = z + r) (h0 : 0 ≤ r * B + u) (h1 : r * B + u < M) : ((a * B % M + u) % M - z * B % M) % M = r * B + u := by
  rw [Int.emod_add_emod, Int.emod_sub_emod, Int.sub_emod, Int.emod_emod, ← Int.sub_emod, ha, Int.add_mul, show z * B + r * B + u - z * B = r * B + u by omega, Int.emod_eq_of_lt h0 h1]
theorem left_lt {r d u B : Nat} (h : r < d) (hu : u < B) : r * B + u < d * B := by
  have := Nat.mul_le_mul_right B h
  rw [Nat.succ_mul] at this
  omega
/-- What is left over, with the next digit. -/
theorem left_math {a d u : Nat} (h0 : 0 < d) (hd : d * 4294967296 < 18446744073709551616) (hu : u < 4294967296) :
    IntKind.u64.wrap (IntKind.u64.wrap (IntKind.u64.wrap ((a : Int) * 4294967296) + (u : Int)) - IntKind.u64.wrap (((a / d : Nat) : Int) * ((d * 4294967296 : Nat) : Int))) = ((a % d * 4294967296 + u : Nat) : Int) ∧ a % d * 4294967296 + u < d * 4294967296 := by
  have h3 := left_lt (Nat.mod_lt a h0) hu
  refine ⟨?_, h3⟩
  have h2 : (a : Int) = ((d * (a / d) : Nat) : Int) + ((a % d : Nat) : Int) := by rw [← Int.natCast_add, Nat.div_add_mod]
  have e : ((a / d : Nat) : Int) * ((d * 4294967296 : Nat) : Int) = ((d * (a / d) : Nat) : Int) * 4294967296 := by rw [Int.natCast_mul, Int.natCast_mul, ← Int.mul_assoc, Int.mul_comm ((a / d : Nat) : Int)]; rfl
  rw [e, IntKind.wrap_u64, IntKind.wrap_u64, IntKind.wrap_u64, IntKind.wrap_u64, wraps _ _ _ _ _ _ h2 (by omega) (by omega)]
  omega
theorem next_math {r u : Nat} (hr : r < 4294967296) (hu : u < 4294967296) : IntKind.u64.wrap (IntKind.u64.wrap (4294967296 * (r : Int)) + (u : Int)) = ((r * 4294967296 + u : Nat) : Int) := by
  rw [show (4294967296 : Int) * (r : Int) = ((r * 4294967296 : Nat) : Int) by omega, wrap_nat _ (by omega), ← Int.natCast_add, wrap_nat _ (by omega)]
theorem low_and {x : Nat} (hx : x < 18446744073709551616) : bits BinOp.and IntKind.u64 (x : Int) 4294967295 = ((x % 4294967296 : Nat) : Int) := by
  have h := u64_and_nat x 4294967295 hx (by omega)
  rw [show (4294967295 : Nat) = 2 ^ 32 - 1 from rfl, Nat.and_two_pow_sub_one_eq_mod] at h
  exact h
theorem div_facts {hi lo y : Nat} (hy0 : 0 < y) (hy : y < 2147483648) (hh : hi < y) (hl : lo < 18446744073709551616) : ∃ s a L d Y q1 r1 b q0 r0 c u1 u0 : Nat,
    ((64 : Int) - Lib.bitLen y = s ∧ s < 64 ∧ 0 < d ∧ d < 4294967296 ∧ L < 18446744073709551616 ∧ a < 18446744073709551616 ∧ Y < 18446744073709551616 ∧ b < 18446744073709551616 ∧ c < 18446744073709551616 ∧ q1 < 4294967296 ∧ q0 < 4294967296 ∧ u1 < 4294967296 ∧ u0 < 4294967296) ∧
    IntKind.u64.wrap ((y : Int) * 2 ^ s) = (Y : Int) ∧ (Y : Int) / 4294967296 = (d : Int) ∧ bits BinOp.and IntKind.u64 (Y : Int) 4294967295 = 0 ∧
    bits BinOp.or .u64 (IntKind.u64.wrap ((hi : Int) * 2 ^ s)) ((lo : Int) / 2 ^ (64 - s)) = (a : Int) ∧ IntKind.u64.wrap ((lo : Int) * 2 ^ s) = (L : Int) ∧
    (L : Int) / 4294967296 = (u1 : Int) ∧ bits BinOp.and IntKind.u64 (L : Int) 4294967295 = (u0 : Int) ∧
    IntKind.u64.wrap ((a : Int) / (d : Int)) = (q1 : Int) ∧ IntKind.u64.wrap ((a : Int) - IntKind.u64.wrap ((q1 : Int) * (d : Int))) = (r1 : Int) ∧
    IntKind.u64.wrap (IntKind.u64.wrap (4294967296 * (r1 : Int)) + (u1 : Int)) = (b : Int) ∧
    IntKind.u64.wrap (IntKind.u64.wrap (IntKind.u64.wrap ((a : Int) * 4294967296) + (u1 : Int)) - IntKind.u64.wrap ((q1 : Int) * (Y : Int))) = (b : Int) ∧
    IntKind.u64.wrap ((b : Int) / (d : Int)) = (q0 : Int) ∧ IntKind.u64.wrap ((b : Int) - IntKind.u64.wrap ((q0 : Int) * (d : Int))) = (r0 : Int) ∧
    IntKind.u64.wrap (IntKind.u64.wrap (4294967296 * (r0 : Int)) + (u0 : Int)) = (c : Int) ∧
    IntKind.u64.wrap (IntKind.u64.wrap (IntKind.u64.wrap ((b : Int) * 4294967296) + (u0 : Int)) - IntKind.u64.wrap ((q0 : Int) * (Y : Int))) = (c : Int) ∧
    (c : Int) / 2 ^ s = ((numC hi lo % y : Nat) : Int) := by
  obtain ⟨s, hs, hs1, hs2, hY⟩ := up_by y hy0 hy
  obtain ⟨a, L, d, ha, hL, hV, hd, E4, E5⟩ := up_math hs2 hs1 hY hh hl
  have HM := long_math hd hV
  have hd0 : 0 < d := by
    have := Nat.mul_pos hy0 (Nat.two_pow_pos s)
    omega
  have hd2 : d * 4294967296 < 18446744073709551616 := by omega
  have hd1 : d < 4294967296 := by omega
  have ha2 : a < d * 4294967296 := by omega
  have hu1 : L / 4294967296 < 4294967296 := by omega
  have hu0 : L % 4294967296 < 4294967296 := by omega
  obtain ⟨E8, E9, q1b, r1b⟩ := digit_math hd0 hd1 ha2
  obtain ⟨E11, hb⟩ := left_math (a := a) hd0 hd2 hu1
  obtain ⟨E12, E13, q0b, r0b⟩ := digit_math hd0 hd1 hb
  obtain ⟨E15, hc⟩ := left_math (a := a % d * 4294967296 + L / 4294967296) hd0 hd2 hu0
  refine ⟨s, a, L, d, d * 4294967296, _, _, _, _, _, _, _, _, ⟨hs, hs2, hd0, hd1, hL, by omega, hd2, Nat.lt_trans hb hd2, Nat.lt_trans hc hd2, q1b, q0b, hu1, hu0⟩, ?_, ?_, ?_, E4, E5, ?_, low_and hL, E8, E9, next_math r1b hu1, E11, E12, E13, next_math r0b hu0, E15, ?_⟩
  · rw [show (y : Int) * 2 ^ s = ((y * 2 ^ s : Nat) : Int) by rw [Int.natCast_mul, Int.natCast_pow]; rfl, hd, wrap_nat _ hd2]
  · clear E8 E9 E11 E12 E13 E15 E4 E5; omega
  · rw [low_and hd2, Nat.mul_mod_left]; rfl
  · clear E8 E9 E11 E12 E13 E15 E4 E5; omega
  · unfold numC; rw [← HM, Int.natCast_ediv, Int.natCast_pow]; rfl
set_option maxHeartbeats 4000000 in
set_option maxRecDepth 100000 in
theorem div64_any (hi lo y : Nat) (hy0 : 0 < y) (hy : y < 2147483648) (hh : hi < y) (hl : lo < 18446744073709551616) (w : World) :
    Calls Try.prog 32 #[.int .u64 (hi : Int), .int .u64 (lo : Int), .int .u64 (y : Int)] w fun e w' => (∃ q : Int, e = .returned (.tuple #[.int .u64 q, .int .u64 ((numC hi lo % y : Nat) : Int)])) ∧ ∃ m, w' = w.drewN m := by
  have HL := Lib.hid (leading_any y (by omega))
  have hy1 : ((y : Int) == 0) = false := by rw [beq_eq_false_iff_ne]; omega
  by_cases h0 : hi = 0
  · subst h0
    have hV : numC 0 lo = lo := by simp [numC]
    rw [hV, Int.natCast_zero]
    clear hh hV HL
    go_enter Try.func32, Try.ntmps32
    go_wp2
    go_region
    go_wp2
    refine bodyPost_ret (v := .tuple #[.int .u64 (IntKind.u64.wrap ((lo : Int) / (y : Int))), .int .u64 ((lo % y : Nat) : Int)]) (by simp [results, Try.results32, go_sem]) rfl ⟨⟨_, rfl⟩, 1, rfl⟩
  · obtain ⟨s, a, L, d, Y, q1, r1, b, q0, r0, c, u1, u0, ⟨hs, hs2, hd0, hd1, hL, ha, hY, hb, hc, q1b, q0b, hu1, hu0⟩, E1, E2, E3, E4, E5, E6, E7, E8, E9, E10, E11, E12, E13, E14, E15, HM⟩ := div_facts hy0 hy hh hl
    rw [hs] at HL
    rw [← HM]
    have hhi : ((hi : Int) == 0) = false := by rw [beq_eq_false_iff_ne]; omega
    clear hs HM
    go_enter Try.func32, Try.ntmps32
    go_wp2_with (go_at_call 34; refine (HL.out _).mono ?_; rintro e w' ⟨rfl, rfl⟩)
    go_loop [15, 16] (fun p r => p = .int .u64 (q1 : Int) ∧ r = .int .u64 (r1 : Int)) (fun _ _ => 0)
    case atStart => exact ⟨rfl, rfl⟩
    case round =>
      obtain ⟨rfl, rfl⟩ := hrel
      clear E1 E2 E3 E4 E5 E6 E7 E8 E9
      have c1 : decide ((4294967296 : Int) ≤ (q1 : Int)) = false := decide_eq_false (by omega)
      have c2 : decide ((b : Int) < 0) = false := decide_eq_false (by omega)
      clear q1b
      go_wp2
      go_loop [16, 18] (fun r p => p = .int .u64 (q0 : Int) ∧ r = .int .u64 (r0 : Int)) (fun _ _ => 0)
      case atStart => exact ⟨rfl, rfl⟩
      case round =>
        obtain ⟨rfl, rfl⟩ := hrel
        clear E10 E11 E12 E13
        have c3 : decide ((4294967296 : Int) ≤ (q0 : Int)) = false := decide_eq_false (by omega)
        have c4 : decide ((c : Int) < 0) = false := decide_eq_false (by omega)
        clear q0b
        go_wp2
        refine bodyPost_ret (v := .tuple #[.int .u64 (IntKind.u64.wrap (IntKind.u64.wrap ((q1 : Int) * 4294967296) + (q0 : Int))), .int .u64 ((c : Int) / 2 ^ s)]) (by simp [results, Try.results32, go_sem]) rfl ⟨⟨_, rfl⟩, 0, rfl⟩
theorem rem_top (hi lo y : Nat) : numC (hi % y) lo % y = numC hi lo % y := by unfold numC; rw [Nat.add_mod, Nat.mod_mul_mod, ← Nat.add_mod]
set_option maxHeartbeats 1000000 in
theorem rem64_any (hi lo y : Nat) (hy0 : 0 < y) (hy : y < 2147483648) (hh : hi < 18446744073709551616) (hl : lo < 18446744073709551616) (w : World) :
    Calls Try.prog 29 #[.int .u64 (hi : Int), .int .u64 (lo : Int), .int .u64 (y : Int)] w fun e w' => e = .returned (.int .u64 ((numC hi lo % y : Nat) : Int)) ∧ ∃ m, w' = w.drewN m := by
  have HD := Lib.hid (div64_any (hi % y) lo y hy0 hy (Nat.mod_lt _ hy0) hl)
  rw [rem_top] at HD
  have E1 : (hi : Int) % (y : Int) = ((hi % y : Nat) : Int) := rfl
  have hv : numC hi lo % y < y := Nat.mod_lt _ hy0
  have hq : hi % y < y := Nat.mod_lt _ hy0
  have hy1 : ((y : Int) == 0) = false := by rw [beq_eq_false_iff_ne]; omega
  generalize numC hi lo % y = v at *
  generalize hi % y = h at *
  go_enter Try.func29, Try.ntmps29
  go_wp2_with (go_at_call 32; refine (HD.out _).mono ?_; rintro e w1 ⟨⟨q, rfl⟩, m, rfl⟩)
  go_wp2
  go_ret
  exact ⟨rfl, m, rfl⟩
end Go.Proofs.Ytpmnikcohadlmaa
