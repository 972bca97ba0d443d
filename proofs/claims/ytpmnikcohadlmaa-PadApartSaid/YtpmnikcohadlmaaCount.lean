/- Layer 4: the program's counts: what each call tells. -/
import Derived.Test.YtpmnikcohadlmaaRefcntc
import Derived.Laws.Externs
import Derived.Test.YtpmnikcohadlmaaDiv
namespace Go.Proofs.Ytpmnikcohadlmaa
open Go.RowKit
set_option linter.unusedVariables false

/-- The model's entry for Sub64. -/
def subEntry : Array Value → Sem Value := fun args => do
  let (x, y, b) ← Extern.MathBitsCarry.three "Sub64" args
  pure (Extern.MathBitsCarry.pair ((x + Extern.MathBitsCarry.m64 - y - b) % Extern.MathBitsCarry.m64) (if x < y + b then 1 else 0))
def bor (x y b : Nat) : Nat := if x < y + b then 1 else 0

/-! ### What is kept -/
def keepN (b : Bool) (x : Nat) : Nat := bif b then x else 0
theorem ends_count {w : World} (a b : Int) : ((w.alloc (.cells #[.int .u64 a, .int .u64 b] 24)) : World).heap[w.heap.size]? = some (.cells #[.int .u64 a, .int .u64 b] 24 (0, 0)) := heap_alloc_new _ _
set_option maxHeartbeats 1000000 in
theorem onlyIf_any (b : Bool) (x y : Nat) (hx : x < 18446744073709551616) (hy : y < 18446744073709551616) (w : World) :
    Calls Try.prog 25 #[.bool b, .agg #[.int .u64 (x : Int), .int .u64 (y : Int)]] w fun e w' => e = .returned (.tuple #[.agg #[.int .u64 (keepN b x : Nat), .int .u64 (keepN b y : Nat)], .bool b]) ∧ Below w.heap.size w w' := by
  cases b
  · go_enter Try.func25, Try.ntmps25
    go_wp2
    exact bodyPost_ret (results_row_tmp (p := 4) (q := 5) rfl _ _ (w.heap.size + 1) 24 _ (0, 0) _ rfl (by rw [← World.size_alloc w (.cells #[.int .u64 (x : Int), .int .u64 (y : Int)] 24)]; exact ends_count _ _) Try.underlying24 rfl (by kernel_rfl)) rfl ⟨rfl, ((Below.refl _ _).alloc (Nat.le_refl _) _).alloc (by simp) _⟩
  · go_enter Try.func25, Try.ntmps25
    go_wp2
    exact bodyPost_ret (results_row_tmp (p := 4) (q := 5) rfl _ _ (w.heap.size + 1) 24 _ (0, 0) _ rfl (by rw [← World.size_alloc w (.cells #[.int .u64 (x : Int), .int .u64 (y : Int)] 24)]; exact ends_count _ _) Try.underlying24 rfl (by kernel_rfl)) rfl ⟨rfl, ((Below.refl _ _).alloc (Nat.le_refl _) _).alloc (by simp) _⟩
/-- A number that is split at 2^64, the upper half perhaps too great. -/
theorem split_count (h l S : Nat) (hl : l < 18446744073709551616) (hS : S = h * 18446744073709551616 + l) :
    cOk S = ((((h / 18446744073709551616 : Nat) : Int)) == 0) ∧ cHi S = keepN ((((h / 18446744073709551616 : Nat) : Int)) == 0) (h % 18446744073709551616) ∧ cLo S = keepN ((((h / 18446744073709551616 : Nat) : Int)) == 0) l := by
  subst hS
  unfold cOk cHi cLo keepN
  by_cases hs : h < 18446744073709551616
  · have e : ((h / 18446744073709551616 : Nat) : Int) = 0 := by omega
    have hc : h * 18446744073709551616 + l < 340282366920938463463374607431768211456 := by omega
    rw [e, if_pos hc, if_pos hc, decide_eq_true hc]
    simp only [beq_self_eq_true, cond_true, true_and]
    omega
  · have e : (((h / 18446744073709551616 : Nat) : Int) == 0) = false := by rw [beq_eq_false_iff_ne]; omega
    have hc : ¬ h * 18446744073709551616 + l < 340282366920938463463374607431768211456 := by omega
    rw [e, if_neg hc, if_neg hc, decide_eq_false hc]
    simp
/-- Below behind the two cells of a call that tells a count. -/
theorem below_two {w w1 : World} {o1 o2 : Obj} (hb : Below ((w.alloc o1).alloc o2).heap.size ((w.alloc o1).alloc o2) w1) : Below w.heap.size w w1 :=
  (((Below.refl w.heap.size w).alloc (Nat.le_refl _) o1).alloc (by simp) o2).trans (hb.mono (by simp; omega))
theorem row_two {w w1 : World} {o1 : Obj} {cs : Array Value} {t : TypeId} (hb : Below ((w.alloc o1).alloc (.cells cs t)).heap.size ((w.alloc o1).alloc (.cells cs t)) w1) : RowOk w1 (w.heap.size + 1) cs.size :=
  RowOk.below ((RowOk_alloc_at (by simp)).2 rfl) hb (by simp)
theorem eight_math (hi lo : Nat) (hh : hi < 18446744073709551616) (hl : lo < 18446744073709551616) :
    cOk (8 * numC hi lo) = ((hi : Int) / 2305843009213693952 == 0) ∧
    cHi (8 * numC hi lo) = keepN ((hi : Int) / 2305843009213693952 == 0) (hi * 8 % 18446744073709551616 ||| lo / 2305843009213693952) ∧
    cLo (8 * numC hi lo) = keepN ((hi : Int) / 2305843009213693952 == 0) (lo * 8 % 18446744073709551616) := by
  have ho : hi * 8 % 18446744073709551616 ||| lo / 2305843009213693952 = (hi * 8 + lo / 2305843009213693952) % 18446744073709551616 := by
    have h1 : hi * 8 % 18446744073709551616 = 2 ^ 3 * (hi % 2305843009213693952) := by omega
    rw [h1, ← Nat.two_pow_add_eq_or_of_lt (by omega)]
    omega
  obtain ⟨e4, e5, e6⟩ := split_count (hi * 8 + lo / 2305843009213693952) (lo * 8 % 18446744073709551616) (8 * numC hi lo) (Nat.mod_lt _ (by omega)) (by unfold numC; omega)
  have e7 : (((hi * 8 + lo / 2305843009213693952) / 18446744073709551616 : Nat) : Int) = (hi : Int) / 2305843009213693952 := by omega
  rw [e4, e5, e6, e7, ho]
  exact ⟨rfl, rfl, rfl⟩
set_option maxHeartbeats 1000000 in
theorem bits_any (hi lo : Nat) (hh : hi < 18446744073709551616) (hl : lo < 18446744073709551616) (w : World) :
    Calls Try.prog 15 #[.agg #[.int .u64 (hi : Int), .int .u64 (lo : Int)]] w fun e w' => e = .returned (.tuple #[.agg #[.int .u64 (cHi (8 * numC hi lo) : Nat), .int .u64 (cLo (8 * numC hi lo) : Nat)], .bool (cOk (8 * numC hi lo))]) ∧ Below w.heap.size w w' := by
  obtain ⟨e1, e2, e3⟩ := eight_math hi lo hh hl
  rw [e1, e2, e3]
  clear e1 e2 e3
  have h8 : (hi * 8 % 18446744073709551616 ||| lo / 2305843009213693952) < 18446744073709551616 := or64 (Nat.mod_lt _ (by omega)) (by omega)
  have HO := Lib.hid (fun b W => onlyIf_any b (hi * 8 % 18446744073709551616 ||| lo / 2305843009213693952) (lo * 8 % 18446744073709551616) h8 (Nat.mod_lt _ (by omega)) W)
  have e8 : bits BinOp.or IntKind.u64 (IntKind.u64.wrap ((hi : Int) * 8)) ((lo : Int) / 2305843009213693952) = ((hi * 8 % 18446744073709551616 ||| lo / 2305843009213693952 : Nat) : Int) := by
    rw [IntKind.wrap_u64, show (hi : Int) * 8 % 18446744073709551616 = ((hi * 8 % 18446744073709551616 : Nat) : Int) by omega, show (lo : Int) / 2305843009213693952 = ((lo / 2305843009213693952 : Nat) : Int) by omega]
    exact u64_or_nat _ _ (by omega) (by omega)
  have e9 : IntKind.u64.wrap ((lo : Int) * 8) = ((lo * 8 % 18446744073709551616 : Nat) : Int) := by rw [IntKind.wrap_u64]; omega
  generalize (hi * 8 % 18446744073709551616 ||| lo / 2305843009213693952) = rh at *
  generalize lo * 8 % 18446744073709551616 = rl at *
  have E8 := Lib.hid e8
  have E9 := Lib.hid e9
  clear e8 e9 h8
  go_enter Try.func15, Try.ntmps15
  go_wp2_with fail
  rw [E8.out, E9.out]
  refine (HO.out _ _).mono ?_
  rintro e w1 ⟨rfl, hb1⟩
  have HR : RowOk w1 (w.heap.size + 1) 2 := row_two hb1
  have HB := Lib.hid (below_two hb1)
  clear hb1
  obtain ⟨tt, hfin⟩ := count_ret HR (keepN ((hi : Int) / 2305843009213693952 == 0) rh : Nat) (keepN ((hi : Int) / 2305843009213693952 == 0) rl : Nat)
  have HF := Lib.hid hfin
  clear hfin
  go_wp2
  exact bodyPost_ret (results_row_tmp (p := 2) (q := 3) rfl _ _ (w.heap.size + 1) tt _ (0, 0) _ rfl HF.out Try.underlying24 rfl (by kernel_rfl)) rfl ⟨rfl, below_setRow HB.out (by omega) _⟩
set_option maxHeartbeats 1000000 in
theorem fits_any (hi lo : Nat) (hh : hi < 18446744073709551616) (hl : lo < 18446744073709551616) (m : Int) (w : World) :
    Calls Try.prog 20 #[.agg #[.int .u64 (hi : Int), .int .u64 (lo : Int)], .int .i64 m] w fun e w' => e = .returned (.bool (fitsB (numC hi lo) m)) ∧ Below w.heap.size w w' := by
  have HB1 := Lib.hid (fun W => bits_any hi lo hh hl W)
  generalize numC hi lo = V at *
  have hrh := cHi_lt (8 * V)
  by_cases h64 : m = 64
  · subst h64
    have HO := Lib.hid (fits_64 V)
    generalize fitsB V 64 = fb at *
    generalize cHi (8 * V) = rh at *
    generalize cLo (8 * V) = rl at *
    generalize cOk (8 * V) = rk at *
    cases rk
    all_goals
      simp only [Bool.true_and, Bool.false_and] at HO
      go_enter Try.func20, Try.ntmps20
      go_wp2_with fail
      refine (HB1.out _).mono ?_
      rintro e w1 ⟨rfl, hb1⟩
      have HB := Lib.hid (((Below.refl w.heap.size w).alloc (Nat.le_refl _) (.cells #[.int .u64 (hi : Int), .int .u64 (lo : Int)] 24)).trans (hb1.mono (by simp)))
      clear hb1
      go_wp2
      go_ret
      refine ⟨?_, HB.out.alloc HB.out.size _⟩
      rw [HO.out]
      try rfl
  · have e64 : (m == 64) = false := by simp [h64]
    have HO := Lib.hid (fits_else V h64)
    generalize fitsB V m = fb at *
    generalize cHi (8 * V) = rh at *
    generalize cLo (8 * V) = rl at *
    generalize cOk (8 * V) = rk at *
    clear h64
    by_cases h128 : m = 128
    · subst h128
      go_enter Try.func20, Try.ntmps20
      go_wp2_with fail
      refine (HB1.out _).mono ?_
      rintro e w1 ⟨rfl, hb1⟩
      have HB := Lib.hid (((Below.refl w.heap.size w).alloc (Nat.le_refl _) (.cells #[.int .u64 (hi : Int), .int .u64 (lo : Int)] 24)).trans (hb1.mono (by simp)))
      clear hb1
      go_wp2
      go_ret
      refine ⟨?_, HB.out.alloc HB.out.size _⟩
      rw [HO.out]
      cases rk <;> rfl
    · have e128 : (m == 128) = false := by simp [h128]
      rw [e128] at HO
      go_enter Try.func20, Try.ntmps20
      go_wp2_with fail
      refine (HB1.out _).mono ?_
      rintro e w1 ⟨rfl, hb1⟩
      have HB := Lib.hid (((Below.refl w.heap.size w).alloc (Nat.le_refl _) (.cells #[.int .u64 (hi : Int), .int .u64 (lo : Int)] 24)).trans (hb1.mono (by simp)))
      clear hb1
      go_wp2
      go_ret
      refine ⟨?_, HB.out.alloc HB.out.size _⟩
      rw [HO.out]
      rfl
set_option maxHeartbeats 1000000 in
theorem mod_any (hi lo : Nat) (hh : hi < 18446744073709551616) (hl : lo < 18446744073709551616) (m : Int) (h0 : -9223372036854775808 ≤ m) (h1 : m ≤ 9223372036854775807) (w : World) :
    Calls Try.prog 21 #[.agg #[.int .u64 (hi : Int), .int .u64 (lo : Int)], .int .i64 m] w fun e w' => e = .returned (.int .i64 (modC (numC hi lo) m)) ∧ Below w.heap.size w w' := by
  by_cases hlo : m < 1
  · have HO : Hid (modC (numC hi lo) m = 0) := if_neg (by omega)
    go_enter Try.func21, Try.ntmps21
    go_wp2
    go_ret
    exact ⟨ret_int HO.out.symm, (Below.refl _ _).alloc (Nat.le_refl _) _⟩
  · by_cases hgt : 2147483647 < m
    · have HO : Hid (modC (numC hi lo) m = 0) := if_neg (by omega)
      go_enter Try.func21, Try.ntmps21
      go_wp2
      go_ret
      exact ⟨ret_int HO.out.symm, (Below.refl _ _).alloc (Nat.le_refl _) _⟩
    · obtain ⟨k, rfl⟩ := Int.eq_ofNat_of_zero_le (show 0 ≤ m by omega)
      have HO : Hid (modC (numC hi lo) k = (numC hi lo % k : Nat)) := by unfold Hid modC; rw [if_pos (by omega)]; simp
      have HR := Lib.hid (rem64_any hi lo k (by omega) (by omega) hh hl)
      have hv : numC hi lo % k < k := Nat.mod_lt _ (by omega)
      generalize numC hi lo % k = v at *
      generalize modC (numC hi lo) k = o at *
      have hk1 : 1 ≤ k := by omega
      have hk2 : k ≤ 2147483647 := by omega
      clear hlo hgt h0 h1
      go_enter Try.func21, Try.ntmps21
      go_wp2_with (go_at_call 29; refine (HR.out _).mono ?_; rintro e w1 ⟨rfl, n, rfl⟩)
      go_ret
      exact ⟨ret_int HO.out.symm, ((Below.refl _ _).alloc (Nat.le_refl _) _).drewN n⟩
end Go.Proofs.Ytpmnikcohadlmaa
