/- Layer 4: the document's own answers: sums, differences, and the rest. -/
import Derived.Test.YtpmnikcohadlmaaRefcnt
namespace Go.Proofs.Ytpmnikcohadlmaa
open Go.RowKit
set_option linter.unusedVariables false

theorem loadC (x : Value) : Instr.loadAt 24 x = loadRow 24 x := rfl
theorem storeC (x y : Value) : Instr.storeAt 24 x y = storeRow 24 x y := rfl
theorem run_loadC {w : World} {n : Nat} (hg : RowOk w n 2) : (loadRow 24 (.pointer (some ⟨n, 0, none⟩))).run Try.prog w = .ok (.agg (rowAt w n)) w :=
  loadAt_row hg Try.underlying24 rfl (by kernel_rfl)
theorem run_storeC {w : World} {n : Nat} {c' : Array Value} (hg : RowOk w n 2) (hs' : c'.size = 2) (h1 : OneCells c') :
    (storeRow 24 (.pointer (some ⟨n, 0, none⟩)) (.agg c')).run Try.prog w = .ok () (w.setRow n c') := storeAt_row hg (by kernel_rfl) hs' h1
attribute [go_sem ↓] loadC storeC
attribute [go_sem] run_loadC run_storeC
theorem two_ones (a b : Int) : OneCells #[.int .u64 a, .int .u64 b] := by simp [OneCells, Value.oneCell']
attribute [go_sem] two_ones
theorem RowOk.below {w w' : World} {n k B : Nat} (h : RowOk w n k) (hb : Below B w w') (hn : n < B) : RowOk w' n k := by
  obtain ⟨c, t, hg, hs⟩ := h
  exact ⟨c, t, (hb.block n hn).trans hg, hs⟩

/-- A struct behind a result's cell, and a second result. -/
theorem results_row_tmp {P : Program} {fn : Func} {p q : Tmp} {ty : TypeId} (h : fn.results = #[.cell p ty, .tmp q]) (tmps : Array Value) (w : World) (g : Nat) (t : TypeId) (cs : Array Value) (fr : Nat × Nat) (d : TypeDesc)
    (hp : tmps.getD p undef = .pointer (some ⟨g, 0, none⟩)) (hg : w.heap[g]? = some (.cells cs t fr))
    (hu : P.underlying ty = some d) (hd : (match d with | .struct _ | .array _ _ => true | _ => false) = true) (hi : (P.info? ty).map (·.size) = some cs.size) :
    (results fn tmps).run P w = .ok (.tuple #[.agg cs, tmps.getD q undef]) w := by
  have hp' : tmps[p]?.getD undef = .pointer (some ⟨g, 0, none⟩) := by simpa using hp
  simp [results, h, hp', asAddr, run_loadVar_row w g t ty cs fr d hg hu hd hi]
/-- The end of a call that tells a count and whether there is one. -/
theorem count_ret {w : World} {n : Nat} (hr : RowOk w n 2) (a b : Int) : ∃ t, (w.setRow n #[.int .u64 a, .int .u64 b]).heap[n]? = some (.cells #[.int .u64 a, .int .u64 b] t (0, 0)) := by
  obtain ⟨t, hg, _⟩ := hr.heap
  exact ⟨t, setRow_heap _ _ _ _ _ _ hg⟩

/-! ### What a count's number tells -/
def cOk (S : Nat) : Bool := decide (S < 340282366920938463463374607431768211456)
def cHi (S : Nat) : Nat := if S < 340282366920938463463374607431768211456 then S / 18446744073709551616 else 0
def cLo (S : Nat) : Nat := if S < 340282366920938463463374607431768211456 then S % 18446744073709551616 else 0
def cntV (S : Nat) : Value := .tuple #[.agg #[.int .u64 (cHi S : Nat), .int .u64 (cLo S : Nat)], .bool (cOk S)]
theorem cHi_lt (S : Nat) : cHi S < 18446744073709551616 := by unfold cHi; split <;> omega
theorem cLo_lt (S : Nat) : cLo S < 18446744073709551616 := by unfold cLo; split <;> omega
theorem bitI_shift (S a i : Nat) : bitI (S / 2 ^ a) i = bitI S (i + a) := by
  rw [bitI_eq, bitI_eq, Nat.testBit_div_two_pow]
theorem bitI_mod (S a i : Nat) (h : i < a) : bitI (S % 2 ^ a) i = bitI S i := by
  rw [bitI_eq, bitI_eq, Nat.testBit_mod_two_pow, decide_eq_true h, Bool.true_and]
set_option maxRecDepth 100000 in
theorem cofN_any (S : Nat) (hS : S < 87112285931760246646623899502532662132736) (w : World) :
    Calls Try.prog 27 #[.agg (arr 136 (bitI S))] w fun e w' => e = .returned (.tuple #[.agg #[.int .u64 (cHi S : Nat), .int .u64 (cLo S : Nat)], .bool (cOk S)]) ∧ Below w.heap.size w w' := by
  refine (cof_any (S / 2 ^ 128) (S / 2 ^ 64 % 2 ^ 64) (S % 2 ^ 64) (by omega) (Nat.mod_lt _ (by omega)) (Nat.mod_lt _ (by omega)) (bitI S)
    (fun i hi => (bitI_mod S 64 i hi).symm) (fun i hi => by rw [bitI_mod _ 64 i hi, bitI_shift]) (fun i hi => (bitI_shift S 128 i).symm) w).mono ?_
  rintro e w' ⟨rfl, hb⟩
  refine ⟨?_, hb⟩
  by_cases h : S < 340282366920938463463374607431768211456
  · have e0 : S / 2 ^ 128 = 0 := Nat.div_eq_of_lt h
    have e1 : S / 2 ^ 64 % 2 ^ 64 = S / 18446744073709551616 := Nat.mod_eq_of_lt (by omega)
    rw [e0, ofC_yes, e1, cHi, cLo, cOk, if_pos h, if_pos h, decide_eq_true h]
  · rw [ofC_no (by omega), cHi, cLo, cOk, if_neg h, if_neg h, decide_eq_false h]; rfl

/-! ### Sums, bit by bit -/
def carryN (x y i : Nat) : Nat := (x % 2 ^ i + y % 2 ^ i) / 2 ^ i
theorem mod_two_succ (v k : Nat) : v % 2 ^ (k + 1) = v % 2 ^ k + v / 2 ^ k % 2 * 2 ^ k := by
  rw [Nat.pow_succ, Nat.mod_mul, Nat.mul_comm (2 ^ k)]
theorem carry_step (x y i : Nat) : (x / 2 ^ i % 2 + y / 2 ^ i % 2 + carryN x y i) / 2 = carryN x y (i + 1) ∧ (x / 2 ^ i % 2 + y / 2 ^ i % 2 + carryN x y i) % 2 = (x + y) / 2 ^ i % 2 := by
  unfold carryN
  rw [mod_two_succ x i, mod_two_succ y i, Nat.pow_succ]
  have hM := Nat.two_pow_pos i
  generalize 2 ^ i = M at *
  have hx := Nat.div_add_mod x M
  have hy := Nat.div_add_mod y M
  have hxm := Nat.mod_lt x hM
  have hym := Nat.mod_lt y hM
  have e : (x + y) / M = x / M + y / M + (x % M + y % M) / M := by
    have h1 : x + y = (x % M + y % M) + M * (x / M + y / M) := by rw [Nat.mul_add]; omega
    rw [h1, Nat.add_mul_div_left _ _ hM]; omega
  rw [e]
  have e2 : (x % M + x / M % 2 * M + (y % M + y / M % 2 * M)) / (M * 2) = ((x % M + y % M) / M + (x / M % 2 + y / M % 2)) / 2 := by
    rw [← Nat.div_div_eq_div_mul]
    congr 1
    have h2 : x % M + x / M % 2 * M + (y % M + y / M % 2 * M) = (x % M + y % M) + M * (x / M % 2 + y / M % 2) := by rw [Nat.mul_add, Nat.mul_comm M, Nat.mul_comm M]; omega
    rw [h2, Nat.add_mul_div_left _ _ hM]
  rw [e2]
  constructor
  · congr 1; omega
  · omega
theorem carry_le (x y i : Nat) : carryN x y i ≤ 1 := by
  unfold carryN
  have hM := Nat.two_pow_pos i
  have hxm := Nat.mod_lt x hM
  have hym := Nat.mod_lt y hM
  generalize 2 ^ i = M at *
  have : (x % M + y % M) / M < 2 := Nat.div_lt_of_lt_mul (by omega)
  omega
theorem bitI_nat (x i : Nat) : bitI x i = ((x / 2 ^ i % 2 : Nat) : Int) := by unfold bitI shr; omega
def addUp (x y k : Nat) : Array Value := arr 136 fun i => if i < k then bitI (x + y) i else bitI x i
theorem addUp_zero (x y : Nat) : addUp x y 0 = arr 136 (bitI x) := arr_congr fun i _ => by rw [if_neg (by omega)]
theorem addUp_full (x y : Nat) : addUp x y 136 = arr 136 (bitI (x + y)) := arr_congr fun i hi => by rw [if_pos hi]
theorem addUp_step (x y k : Nat) (u : Int) (hu : u = bitI (x + y) k) : (addUp x y k).setIfInBounds k (.int .i64 u) = addUp x y (k + 1) :=
  arr_set 136 _ _ k _ (by rw [if_pos (by omega), hu]) fun i _ hn => by by_cases h : i < k <;> simp [h, show i < k + 1 ↔ i < k by omega]
theorem drewN_zero (w : World) : w.drewN 0 = w := rfl
/-! ### Differences, bit by bit -/
def borrowN (x y i : Nat) : Nat := if x % 2 ^ i < y % 2 ^ i then 1 else 0
theorem borrow_le (x y i : Nat) : borrowN x y i ≤ 1 := by unfold borrowN; split <;> omega
theorem borrow_step (x y i : Nat) (hy : y < 2 ^ 128) (hi : i < 128) : x / 2 ^ i % 2 + 2 - y / 2 ^ i % 2 - borrowN x y i < 2 ∧ borrowN x y (i + 1) = 1 ∧ (x + 2 ^ 128 - y) / 2 ^ i % 2 = x / 2 ^ i % 2 + 2 - y / 2 ^ i % 2 - borrowN x y i ∨
    2 ≤ x / 2 ^ i % 2 + 2 - y / 2 ^ i % 2 - borrowN x y i ∧ borrowN x y (i + 1) = 0 ∧ (x + 2 ^ 128 - y) / 2 ^ i % 2 = x / 2 ^ i % 2 + 2 - y / 2 ^ i % 2 - borrowN x y i - 2 := by
  obtain ⟨K, hK⟩ : ∃ K, K = 2 ^ (127 - i) := ⟨_, rfl⟩
  have hp : 2 ^ 128 = 2 ^ i * (2 * K) := by rw [hK, ← Nat.pow_succ', ← Nat.pow_add]; congr 1; omega
  unfold borrowN
  rw [mod_two_succ x i, mod_two_succ y i, hp]
  rw [hp] at hy
  have hM := Nat.two_pow_pos i
  clear hp hK hi
  generalize 2 ^ i = M at *
  have hx := Nat.div_add_mod x M
  have hyd := Nat.div_add_mod y M
  have hxm := Nat.mod_lt x hM
  have hym := Nat.mod_lt y hM
  have hYK : y / M < 2 * K := Nat.div_lt_of_lt_mul hy
  generalize x / M = X at *
  generalize y / M = Y at *
  generalize x % M = xr at *
  generalize y % M = yr at *
  subst hx; subst hyd
  obtain ⟨Z, hZ⟩ : ∃ Z, Z + Y = X + 2 * K := ⟨X + 2 * K - Y, by omega⟩
  have hZ1 : 1 ≤ Z := by omega
  have hZM : M * Z + M * Y = M * X + M * (2 * K) := by rw [← Nat.mul_add, hZ, Nat.mul_add]
  by_cases hlt : xr < yr
  · have e : (M * X + xr + M * (2 * K) - (M * Y + yr)) / M = Z - 1 := by
      have h1 : M * X + xr + M * (2 * K) - (M * Y + yr) = (M + xr - yr) + M * (Z - 1) := by
        have h2 : M * (Z - 1) + M = M * Z := by rw [← Nat.mul_succ]; congr 1; omega
        omega
      rw [h1, Nat.add_mul_div_left _ _ hM, Nat.div_eq_of_lt (by omega), Nat.zero_add]
    rw [e, if_pos hlt]
    rcases Nat.mod_two_eq_zero_or_one X with a | a <;> rcases Nat.mod_two_eq_zero_or_one Y with b | b <;> rw [a, b] <;> simp only [Nat.zero_mul, Nat.one_mul, Nat.add_zero]
    · left; rw [if_pos (by omega)]; omega
    · left; rw [if_pos (by omega)]; omega
    · right; rw [if_neg (by omega)]; omega
    · left; rw [if_pos (by omega)]; omega
  · have e : (M * X + xr + M * (2 * K) - (M * Y + yr)) / M = Z := by
      have h1 : M * X + xr + M * (2 * K) - (M * Y + yr) = (xr - yr) + M * Z := by omega
      rw [h1, Nat.add_mul_div_left _ _ hM, Nat.div_eq_of_lt (by omega), Nat.zero_add]
    rw [e, if_neg hlt]
    rcases Nat.mod_two_eq_zero_or_one X with a | a <;> rcases Nat.mod_two_eq_zero_or_one Y with b | b <;> rw [a, b] <;> simp only [Nat.zero_mul, Nat.one_mul, Nat.add_zero]
    · right; rw [if_neg (by omega)]; omega
    · left; rw [if_pos (by omega)]; omega
    · right; rw [if_neg (by omega)]; omega
    · right; rw [if_neg (by omega)]; omega
def subUp (x y k : Nat) : Array Value := arr 136 fun i => if i < k then bitI (x + 2 ^ 128 - y) i else bitI x i
theorem subUp_zero (x y : Nat) : subUp x y 0 = arr 136 (bitI x) := arr_congr fun i _ => by rw [if_neg (by omega)]
theorem subUp_step (x y k : Nat) (u : Int) (hu : u = bitI (x + 2 ^ 128 - y) k) : (subUp x y k).setIfInBounds k (.int .i64 u) = subUp x y (k + 1) :=
  arr_set 136 _ _ k _ (by rw [if_pos (by omega), hu]) fun i _ hn => by by_cases h : i < k <;> simp [h, show i < k + 1 ↔ i < k by omega]
theorem subUp_full {x y : Nat} (hx : x < 340282366920938463463374607431768211456) (h : y ≤ x) : subUp x y 128 = arr 136 (bitI (x - y)) := arr_congr fun i hi => by
  by_cases h1 : i < 128
  · rw [if_pos h1, ← bitI_mod (x + 2 ^ 128 - y) 128 i h1, show (x + 2 ^ 128 - y) % 2 ^ 128 = x - y by omega]
  · rw [if_neg h1, bitI_eq, bitI_eq, Nat.testBit_lt_two_pow (Nat.lt_of_lt_of_le (show x < 2 ^ 128 from hx) (Nat.pow_le_pow_right (by omega) (by omega))), Nat.testBit_lt_two_pow (Nat.lt_of_lt_of_le (show x - y < 2 ^ 128 by omega) (Nat.pow_le_pow_right (by omega) (by omega)))]
/-- What is left: too much, where it is below nought. -/
def subC (x y : Nat) : Nat := if y ≤ x then x - y else 340282366920938463463374607431768211456
theorem borrow_end {x y : Nat} (hx : x < 340282366920938463463374607431768211456) (hy : y < 340282366920938463463374607431768211456) : borrowN x y 128 = if y ≤ x then 0 else 1 := by
  unfold borrowN
  rw [Nat.mod_eq_of_lt (show x < 2 ^ 128 from hx), Nat.mod_eq_of_lt (show y < 2 ^ 128 from hy)]
  by_cases h : y ≤ x
  · rw [if_pos h, if_neg (by omega)]
  · rw [if_neg h, if_pos (by omega)]
end Go.Proofs.Ytpmnikcohadlmaa
