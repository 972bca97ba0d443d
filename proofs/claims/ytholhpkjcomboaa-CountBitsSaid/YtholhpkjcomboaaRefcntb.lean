/- Layer 4: the document's own answers: sums, differences, and the rest. -/
import Derived.Test.YtholhpkjcomboaaRefcnt
namespace Go.Proofs.Ytholhpkjcomboaa
open Go.RowKit
set_option linter.unusedVariables false

theorem loadC (x : Value) : Instr.loadAt 24 x = loadRow 24 x := rfl
theorem storeC (x y : Value) : Instr.storeAt 24 x y = storeRow 24 x y := rfl
theorem run_loadC {w : World} {n : Nat} (hg : RowOk w n 2) : (loadRow 24 (.pointer (some ⟨n, 0, none⟩))).run Try.prog w = .ok (.agg (rowAt w n)) w :=
  loadAt_row hg Try.underlying24 rfl (by kernel_rfl)
theorem run_storeC {w : World} {n : Nat} {c' : Array Value} (hg : RowOk w n 2) (hs' : c'.size = 2) (h1 : OneCells c') :
    (storeRow 24 (.pointer (some ⟨n, 0, none⟩)) (.agg c')).run Try.prog w = .ok () (w.setRow n c') := storeAt_row hg (by kernel_rfl) hs' h1
attribute [go_sem ↓] loadC storeC
attribute [go_sem] run_loadC run_storeC
theorem two_ones (a b : Int) : OneCells #[.int .u64 a, .int .u64 b] := by simp [OneCells, Value.oneCell']
attribute [go_sem] two_ones
theorem RowOk.below {w w' : World} {n k B : Nat} (h : RowOk w n k) (hb : Below B w w') (hn : n < B) : RowOk w' n k := by
  obtain ⟨c, t, hg, hs⟩ := h
  exact ⟨c, t, (hb.block n hn).trans hg, hs⟩

/-- A struct behind a result's cell, and a second result. -/
theorem results_row_tmp {P : Program} {fn : Func} {p q : Tmp} {ty : TypeId} (h : fn.results = #[.cell p ty, .tmp q]) (tmps : Array Value) (w : World) (g : Nat) (t : TypeId) (cs : Array Value) (fr : Nat × Nat) (d : TypeDesc)
    (hp : tmps.getD p undef = .pointer (some ⟨g, 0, none⟩)) (hg : w.heap[g]? = some (.cells cs t fr))
    (hu : P.underlying ty = some d) (hd : (match d with | .struct _ | .array _ _ => true | _ => false) = true) (hi : (P.info? ty).map (·.size) = some cs.size) :
    (results fn tmps).run P w = .ok (.tuple #[.agg cs, tmps.getD q undef]) w := by
  have hp' : tmps[p]?.getD undef = .pointer (some ⟨g, 0, none⟩) := by simpa using hp
  simp [results, h, hp', asAddr, run_loadVar_row w g t ty cs fr d hg hu hd hi]
/-- The end of a call that tells a count and whether there is one. -/
theorem count_ret {w : World} {n : Nat} (hr : RowOk w n 2) (a b : Int) : ∃ t, (w.setRow n #[.int .u64 a, .int .u64 b]).heap[n]? = some (.cells #[.int .u64 a, .int .u64 b] t (0, 0)) := by
  obtain ⟨t, hg, _⟩ := hr.heap
  exact ⟨t, setRow_heap _ _ _ _ _ _ hg⟩

/-! ### What a count's number tells -/
def cOk (S : Nat) : Bool := decide (S < 340282366920938463463374607431768211456)
def cHi (S : Nat) : Nat := if S < 340282366920938463463374607431768211456 then S / 18446744073709551616 else 0
def cLo (S : Nat) : Nat := if S < 340282366920938463463374607431768211456 then S % 18446744073709551616 else 0
def cntV (S : Nat) : Value := .tuple #[.agg #[.int .u64 (cHi S : Nat), .int .u64 (cLo S : Nat)], .bool (cOk S)]
theorem cHi_lt (S : Nat) : cHi S < 18446744073709551616 := by unfold cHi; split <;> omega
theorem cLo_lt (S : Nat) : cLo S < 18446744073709551616 := by unfold cLo; split <;> omega
theorem bitI_shift (S a i : Nat) : bitI (S / 2 ^ a) i = bitI S (i + a) := by
  rw [bitI_eq, bitI_eq, Nat.testBit_div_two_pow]
theorem bitI_mod (S a i : Nat) (h : i < a) : bitI (S % 2 ^ a) i = bitI S i := by
  rw [bitI_eq, bitI_eq, Nat.testBit_mod_two_pow, decide_eq_true h, Bool.true_and]
set_option maxRecDepth 100000 in
theorem cofN_any (S : Nat) (hS : S < 87112285931760246646623899502532662132736) (w : World) :
    Calls Try.prog 29 #[.agg (arr 136 (bitI S))] w fun e w' => e = .returned (.tuple #[.agg #[.int .u64 (cHi S : Nat), .int .u64 (cLo S : Nat)], .bool (cOk S)]) ∧ Below w.heap.size w w' := by
  refine (cof_any (S / 2 ^ 128) (S / 2 ^ 64 % 2 ^ 64) (S % 2 ^ 64) (by omega) (Nat.mod_lt _ (by omega)) (Nat.mod_lt _ (by omega)) (bitI S)
    (fun i hi => (bitI_mod S 64 i hi).symm) (fun i hi => by rw [bitI_mod _ 64 i hi, bitI_shift]) (fun i hi => (bitI_shift S 128 i).symm) w).mono ?_
  rintro e w' ⟨rfl, hb⟩
  refine ⟨?_, hb⟩
  by_cases h : S < 340282366920938463463374607431768211456
  · have e0 : S / 2 ^ 128 = 0 := Nat.div_eq_of_lt h
    have e1 : S / 2 ^ 64 % 2 ^ 64 = S / 18446744073709551616 := Nat.mod_eq_of_lt (by omega)
    rw [e0, ofC_yes, e1, cHi, cLo, cOk, if_pos h, if_pos h, decide_eq_true h]
  · rw [ofC_no (by omega), cHi, cLo, cOk, if_neg h, if_neg h, decide_eq_false h]; rfl

/-! ### Sums, bit by bit -/
def carryN (x y i : Nat) : Nat := (x % 2 ^ i + y % 2 ^ i) / 2 ^ i
theorem mod_two_succ (v k : Nat) : v % 2 ^ (k + 1) = v % 2 ^ k + v / 2 ^ k % 2 * 2 ^ k := by
  rw [Nat.pow_succ, Nat.mod_mul, Nat.mul_comm (2 ^ k)]
theorem carry_step (x y i : Nat) : (x / 2 ^ i % 2 + y / 2 ^ i % 2 + carryN x y i) / 2 = carryN x y (i + 1) ∧ (x / 2 ^ i % 2 + y / 2 ^ i % 2 + carryN x y i) % 2 = (x + y) / 2 ^ i % 2 := by
  unfold carryN
  rw [mod_two_succ x i, mod_two_succ y i, Nat.pow_succ]
  have hM := Nat.two_pow_pos i
  generalize 2 ^ i = M at *
  have hx := Nat.div_add_mod x M
  have hy := Nat.div_add_mod y M
  have hxm := Nat.mod_lt x hM
  have hym := Nat.mod_lt y hM
  have e : (x + y) / M = x / M + y / M + (x % M + y % M) / M := by
    have h1 : x + y = (x % M + y % M) + M * (x / M + y / M) := by rw [Nat.mul_add]; omega
    rw [h1, Nat.add_mul_div_left _ _ hM]; omega
  rw [e]
  have e2 : (x % M + x / M % 2 * M + (y % M + y / M % 2 * M)) / (M * 2) = ((x % M + y % M) / M + (x / M % 2 + y / M % 2)) / 2 := by
    rw [← Nat.div_div_eq_div_mul]
    congr 1
    have h2 : x % M + x / M % 2 * M + (y % M + y / M % 2 * M) = (x % M + y % M) + M * (x / M % 2 + y / M % 2) := by rw [Nat.mul_add, Nat.mul_comm M, Nat.mul_comm M]; omega
    rw [h2, Nat.add_mul_div_left _ _ hM]
  rw [e2]
  constructor
  · congr 1; omega
  · omega
theorem carry_le (x y i : Nat) : carryN x y i ≤ 1 := by
  unfold carryN
  have hM := Nat.two_pow_pos i
  have hxm := Nat.mod_lt x hM
  have hym := Nat.mod_lt y hM
  generalize 2 ^ i = M at *
  have : (x % M + y % M) / M < 2 := Nat.div_lt_of_lt_mul (by omega)
  omega
theorem bitI_nat (x i : Nat) : bitI x i = ((x / 2 ^ i % 2 : Nat) : Int) := by unfold bitI shr; omega
def addUp (x y k : Nat) : Array Value := arr 136 fun i => if i < k then bitI (x + y) i else bitI x i
theorem addUp_zero (x y : Nat) : addUp x y 0 = arr 136 (bitI x) := arr_congr fun i _ => by rw [if_neg (by omega)]
theorem addUp_full (x y : Nat) : addUp x y 136 = arr 136 (bitI (x + y)) := arr_congr fun i hi => by rw [if_pos hi]
theorem addUp_step (x y k : Nat) (u : Int) (hu : u = bitI (x + y) k) : (addUp x y k).setIfInBounds k (.int .i64 u) = addUp x y (k + 1) :=
  arr_set 136 _ _ k _ (by rw [if_pos (by omega), hu]) fun i _ hn => by by_cases h : i < k <;> simp [h, show i < k + 1 ↔ i < k by omega]
theorem drewN_zero (w : World) : w.drewN 0 = w := rfl
set_option maxRecDepth 100000 in
set_option maxHeartbeats 4000000 in
theorem refAdd_any (hi lo n : Nat) (hh : hi < 18446744073709551616) (hl : lo < 18446744073709551616) (hn : n < 18446744073709551616) (w : World) :
    Calls Try.prog 11 #[.agg #[.int .u64 (hi : Int), .int .u64 (lo : Int)], .int .u64 (n : Int)] w fun e w' => e = .returned (.tuple #[.agg #[.int .u64 (cHi (numC hi lo + n) : Nat), .int .u64 (cLo (numC hi lo + n) : Nat)], .bool (cOk (numC hi lo + n))]) ∧ Below w.heap.size w w' := by
  have hV := numC_lt hh hl
  have HCF := Lib.hid (fun W => cofN_any (numC hi lo + n) (by omega) W)
  have HB1 := Lib.hid (fun W => cbits_any hi lo hh hl W)
  have HB2 := Lib.hid (fun W => cbits_any 0 n (by omega) hn W)
  rw [show numC 0 n = n by simp [numC]] at HB2
  generalize numC hi lo = V at *
  generalize cHi (V + n) = rh at *
  generalize cLo (V + n) = rl at *
  generalize cOk (V + n) = rk at *
  go_enter Try.func11, Try.ntmps11
  go_wp2_with fail
  refine (HB1.out _).mono ?_
  rintro e w1 ⟨rfl, hb1⟩
  go_wp2_with fail
  refine (HB2.out _).mono ?_
  rintro e w2 ⟨rfl, hb2⟩
  have hz1 := hb1.size
  have hz2 := hb2.size
  simp only [World.size_alloc] at hz1 hz2 hb1
  have hb0 : Below w.heap.size w ((w.alloc (.cells #[.int .u64 (hi : Int), .int .u64 (lo : Int)] 24)).alloc (.cells #[.int .u64 0, .int .u64 0] 24)) := ((Below.refl _ _).alloc (Nat.le_refl _) _).alloc (by simp) _
  have hrow : RowOk ((w.alloc (.cells #[.int .u64 (hi : Int), .int .u64 (lo : Int)] 24)).alloc (.cells #[.int .u64 0, .int .u64 0] 24)) (w.heap.size + 1) 2 := (RowOk_alloc_at (by simp)).2 rfl
  have hr2 := (hrow.below hb1 (by omega)).below hb2 (by omega)
  have hb : Below w.heap.size w w2 := (hb0.trans (hb1.mono (by omega))).trans (hb2.mono (by omega))
  clear hb0 hrow hb1 hb2
  have HB := Lib.hid hb
  clear hb
  have s1 : (arr 136 (bitI n)).size = 136 := arr_size _ _
  have s2 : (addUp V n 0).size = 136 := arr_size _ _
  have hE := addUp_zero V n
  rw [← hE]
  clear hE
  have o2 : OneCells (addUp V n 0) := arr_ones _ _
  go_wp2
  go_loopw [8, 9, 10] (fun c i _ wr => ∃ k m : Nat, k ≤ 136 ∧ i = .int .i64 k ∧ c = .int .i64 (carryN V n k : Nat) ∧
      wr = ((w2.alloc (.cells (addUp V n k) 46)).alloc (.cells (arr 136 (bitI n)) 46)).drewN m) (fun _ i _ _ => 136 - (intOf i).toNat)
  case atStart => exact ⟨0, 0, by omega, rfl, by simp [carryN, Nat.mod_one], by rw [drewN_zero]⟩
  case round =>
    obtain ⟨k, m, hk, rfl, rfl, rfl⟩ := hrel
    by_cases hlt : k < 136
    · have hc1 : (addUp V n k)[k]? = some (.int .i64 _) := arr_at 136 _ k hlt
      rw [if_neg (by omega)] at hc1
      have hc2 := arr_at 136 (bitI n) k hlt
      obtain ⟨q1, q2⟩ := carry_step V n k
      have HT := Lib.hid (fun u => addUp_step V n k u)
      have HQ : Hid ((bitI V k + bitI n k + (carryN V n k : Nat)) % 2 = bitI (V + n) k) := by unfold Hid; rw [bitI_nat, bitI_nat, bitI_nat, ← q2]; omega
      have HC : Hid (((carryN V n (k + 1) : Nat) : Int) = (bitI V k + bitI n k + (carryN V n k : Nat)) / 2) := by unfold Hid; rw [bitI_nat, bitI_nat, ← q1]; omega
      have hcl := carry_le V n k
      have r1 := bitI_range V k
      have r2 := bitI_range n k
      clear q1 q2
      generalize bitI V k = p at *
      generalize carryN V n k = c at *
      go_wp2
      go_region
      go_wp2
      go_roundw
      case rel => exact ⟨k + 1, m + 1, by omega, by go_num, by rw [HC.out], by rw [← HT.out _ HQ.out]⟩
      case measure => simp [intOf]; omega
    · obtain rfl : k = 136 := by omega
      rw [addUp_full V n]
      have hbw : Below w2.heap.size w2 (((w2.alloc (.cells (arr 136 (bitI (V + n))) 46)).alloc (.cells (arr 136 (bitI n)) 46)).drewN m) := (((Below.refl _ _).alloc (Nat.le_refl _) _).alloc (by simp) _).drewN m
      have hrw := hr2.below hbw (by omega)
      have hB3 := HB.out.trans (hbw.mono HB.out.size)
      have hsz3 := hbw.size
      go_wp2_with fail
      refine (HCF.out _).mono ?_
      rintro e w3 ⟨rfl, hb3⟩
      have hr3 := hrw.below hb3 (by omega)
      have HB3 := Lib.hid (hB3.trans (hb3.mono (by omega)))
      clear hbw hrw hB3 hb3 hr2 HB
      obtain ⟨tt, hfin⟩ := count_ret hr3 (rh : Nat) (rl : Nat)
      have HF := Lib.hid hfin
      clear hfin
      go_wp2
      exact bodyPost_ret (results_row_tmp (p := 4) (q := 5) rfl _ _ (w.heap.size + 1) tt _ (0, 0) _ rfl HF.out Try.underlying24 rfl (by kernel_rfl)) rfl ⟨rfl, below_setRow HB3.out (by omega) _⟩
/-! ### Differences, bit by bit -/
def borrowN (x y i : Nat) : Nat := if x % 2 ^ i < y % 2 ^ i then 1 else 0
theorem borrow_le (x y i : Nat) : borrowN x y i ≤ 1 := by unfold borrowN; split <;> omega
theorem borrow_step (x y i : Nat) (hy : y < 2 ^ 128) (hi : i < 128) : x / 2 ^ i % 2 + 2 - y / 2 ^ i % 2 - borrowN x y i < 2 ∧ borrowN x y (i + 1) = 1 ∧ (x + 2 ^ 128 - y) / 2 ^ i % 2 = x / 2 ^ i % 2 + 2 - y / 2 ^ i % 2 - borrowN x y i ∨
    2 ≤ x / 2 ^ i % 2 + 2 - y / 2 ^ i % 2 - borrowN x y i ∧ borrowN x y (i + 1) = 0 ∧ (x + 2 ^ 128 - y) / 2 ^ i % 2 = x / 2 ^ i % 2 + 2 - y / 2 ^ i % 2 - borrowN x y i - 2 := by
  obtain ⟨K, hK⟩ : ∃ K, K = 2 ^ (127 - i) := ⟨_, rfl⟩
  have hp : 2 ^ 128 = 2 ^ i * (2 * K) := by rw [hK, ← Nat.pow_succ', ← Nat.pow_add]; congr 1; omega
  unfold borrowN
  rw [mod_two_succ x i, mod_two_succ y i, hp]
  rw [hp] at hy
  have hM := Nat.two_pow_pos i
  clear hp hK hi
  generalize 2 ^ i = M at *
  have hx := Nat.div_add_mod x M
  have hyd := Nat.div_add_mod y M
  have hxm := Nat.mod_lt x hM
  have hym := Nat.mod_lt y hM
  have hYK : y / M < 2 * K := Nat.div_lt_of_lt_mul hy
  generalize x / M = X at *
  generalize y / M = Y at *
  generalize x % M = xr at *
  generalize y % M = yr at *
  subst hx; subst hyd
  obtain ⟨Z, hZ⟩ : ∃ Z, Z + Y = X + 2 * K := ⟨X + 2 * K - Y, by omega⟩
  have hZ1 : 1 ≤ Z := by omega
  have hZM : M * Z + M * Y = M * X + M * (2 * K) := by rw [← Nat.mul_add, hZ, Nat.mul_add]
  by_cases hlt : xr < yr
  · have e : (M * X + xr + M * (2 * K) - (M * Y + yr)) / M = Z - 1 := by
      have h1 : M * X + xr + M * (2 * K) - (M * Y + yr) = (M + xr - yr) + M * (Z - 1) := by
        have h2 : M * (Z - 1) + M = M * Z := by rw [← Nat.mul_succ]; congr 1; omega
        omega
      rw [h1, Nat.add_mul_div_left _ _ hM, Nat.div_eq_of_lt (by omega), Nat.zero_add]
    rw [e, if_pos hlt]
    rcases Nat.mod_two_eq_zero_or_one X with a | a <;> rcases Nat.mod_two_eq_zero_or_one Y with b | b <;> rw [a, b] <;> simp only [Nat.zero_mul, Nat.one_mul, Nat.add_zero]
    · left; rw [if_pos (by omega)]; omega
    · left; rw [if_pos (by omega)]; omega
    · right; rw [if_neg (by omega)]; omega
    · left; rw [if_pos (by omega)]; omega
  · have e : (M * X + xr + M * (2 * K) - (M * Y + yr)) / M = Z := by
      have h1 : M * X + xr + M * (2 * K) - (M * Y + yr) = (xr - yr) + M * Z := by omega
      rw [h1, Nat.add_mul_div_left _ _ hM, Nat.div_eq_of_lt (by omega), Nat.zero_add]
    rw [e, if_neg hlt]
    rcases Nat.mod_two_eq_zero_or_one X with a | a <;> rcases Nat.mod_two_eq_zero_or_one Y with b | b <;> rw [a, b] <;> simp only [Nat.zero_mul, Nat.one_mul, Nat.add_zero]
    · right; rw [if_neg (by omega)]; omega
    · left; rw [if_pos (by omega)]; omega
    · right; rw [if_neg (by omega)]; omega
    · right; rw [if_neg (by omega)]; omega
def subUp (x y k : Nat) : Array Value := arr 136 fun i => if i < k then bitI (x + 2 ^ 128 - y) i else bitI x i
theorem subUp_zero (x y : Nat) : subUp x y 0 = arr 136 (bitI x) := arr_congr fun i _ => by rw [if_neg (by omega)]
theorem subUp_step (x y k : Nat) (u : Int) (hu : u = bitI (x + 2 ^ 128 - y) k) : (subUp x y k).setIfInBounds k (.int .i64 u) = subUp x y (k + 1) :=
  arr_set 136 _ _ k _ (by rw [if_pos (by omega), hu]) fun i _ hn => by by_cases h : i < k <;> simp [h, show i < k + 1 ↔ i < k by omega]
theorem subUp_full {x y : Nat} (hx : x < 340282366920938463463374607431768211456) (h : y ≤ x) : subUp x y 128 = arr 136 (bitI (x - y)) := arr_congr fun i hi => by
  by_cases h1 : i < 128
  · rw [if_pos h1, ← bitI_mod (x + 2 ^ 128 - y) 128 i h1, show (x + 2 ^ 128 - y) % 2 ^ 128 = x - y by omega]
  · rw [if_neg h1, bitI_eq, bitI_eq, Nat.testBit_lt_two_pow (Nat.lt_of_lt_of_le (show x < 2 ^ 128 from hx) (Nat.pow_le_pow_right (by omega) (by omega))), Nat.testBit_lt_two_pow (Nat.lt_of_lt_of_le (show x - y < 2 ^ 128 by omega) (Nat.pow_le_pow_right (by omega) (by omega)))]
/-- What is left: too much, where it is below nought. -/
def subC (x y : Nat) : Nat := if y ≤ x then x - y else 340282366920938463463374607431768211456
theorem borrow_end {x y : Nat} (hx : x < 340282366920938463463374607431768211456) (hy : y < 340282366920938463463374607431768211456) : borrowN x y 128 = if y ≤ x then 0 else 1 := by
  unfold borrowN
  rw [Nat.mod_eq_of_lt (show x < 2 ^ 128 from hx), Nat.mod_eq_of_lt (show y < 2 ^ 128 from hy)]
  by_cases h : y ≤ x
  · rw [if_pos h, if_neg (by omega)]
  · rw [if_neg h, if_pos (by omega)]
set_option maxRecDepth 100000 in
set_option maxHeartbeats 4000000 in
theorem refSub_any (hi lo n : Nat) (hh : hi < 18446744073709551616) (hl : lo < 18446744073709551616) (hn : n < 18446744073709551616) (w : World) :
    Calls Try.prog 12 #[.agg #[.int .u64 (hi : Int), .int .u64 (lo : Int)], .int .u64 (n : Int)] w fun e w' => e = .returned (.tuple #[.agg #[.int .u64 (cHi (subC (numC hi lo) n) : Nat), .int .u64 (cLo (subC (numC hi lo) n) : Nat)], .bool (cOk (subC (numC hi lo) n))]) ∧ Below w.heap.size w w' := by
  have hV := numC_lt hh hl
  have HCF := Lib.hid (fun W => cofN_any (subC (numC hi lo) n) (by unfold subC; split <;> omega) W)
  have HB1 := Lib.hid (fun W => cbits_any hi lo hh hl W)
  have HB2 := Lib.hid (fun W => cbits_any 0 n (by omega) hn W)
  rw [show numC 0 n = n by simp [numC]] at HB2
  generalize numC hi lo = V at *
  have HZ : Hid (¬ n ≤ V → cHi (subC V n) = 0 ∧ cLo (subC V n) = 0 ∧ cOk (subC V n) = false) := fun h => by simp [subC, h, cHi, cLo, cOk]
  have HE : Hid (n ≤ V → subC V n = V - n) := fun h => if_pos h
  generalize cHi (subC V n) = rh at *
  generalize cLo (subC V n) = rl at *
  generalize cOk (subC V n) = rk at *
  go_enter Try.func12, Try.ntmps12
  go_wp2_with fail
  refine (HB1.out _).mono ?_
  rintro e w1 ⟨rfl, hb1⟩
  go_wp2_with fail
  refine (HB2.out _).mono ?_
  rintro e w2 ⟨rfl, hb2⟩
  have hz1 := hb1.size
  have hz2 := hb2.size
  simp only [World.size_alloc] at hz1 hz2 hb1
  have hb0 : Below w.heap.size w ((w.alloc (.cells #[.int .u64 (hi : Int), .int .u64 (lo : Int)] 24)).alloc (.cells #[.int .u64 0, .int .u64 0] 24)) := ((Below.refl _ _).alloc (Nat.le_refl _) _).alloc (by simp) _
  have hrow : RowOk ((w.alloc (.cells #[.int .u64 (hi : Int), .int .u64 (lo : Int)] 24)).alloc (.cells #[.int .u64 0, .int .u64 0] 24)) (w.heap.size + 1) 2 := (RowOk_alloc_at (by simp)).2 rfl
  have hr2 := (hrow.below hb1 (by omega)).below hb2 (by omega)
  have hb : Below w.heap.size w w2 := (hb0.trans (hb1.mono (by omega))).trans (hb2.mono (by omega))
  clear hb0 hrow hb1 hb2
  have HB := Lib.hid hb
  clear hb
  have s1 : (arr 136 (bitI n)).size = 136 := arr_size _ _
  have s2 : (subUp V n 0).size = 136 := arr_size _ _
  have hE := subUp_zero V n
  rw [← hE]
  clear hE
  have o2 : OneCells (subUp V n 0) := arr_ones _ _
  go_wp2
  go_loopw [8, 9, 10] (fun c i _ wr => ∃ k m : Nat, k ≤ 128 ∧ i = .int .i64 k ∧ c = .int .i64 (borrowN V n k : Nat) ∧
      wr = ((w2.alloc (.cells (subUp V n k) 46)).alloc (.cells (arr 136 (bitI n)) 46)).drewN m) (fun _ i _ _ => 128 - (intOf i).toNat)
  case atStart => exact ⟨0, 0, by omega, rfl, by simp [borrowN, Nat.mod_one], by rw [drewN_zero]⟩
  case round =>
    obtain ⟨k, m, hk, rfl, rfl, rfl⟩ := hrel
    by_cases hlt : k < 128
    · have hc1 : (subUp V n k)[k]? = some (.int .i64 _) := arr_at 136 _ k (by omega)
      rw [if_neg (by omega)] at hc1
      have hc2 := arr_at 136 (bitI n) k (by omega)
      have hst := borrow_step V n k (by omega) hlt
      have HT := Lib.hid (fun u => subUp_step V n k u)
      have hcl := borrow_le V n k
      have HC : Hid (((borrowN V n (k + 1) : Nat) : Int) = 1 - (bitI V k - bitI n k - (borrowN V n k : Nat) + 2) / 2) := by unfold Hid; rw [bitI_nat, bitI_nat]; omega
      have HQ : Hid ((bitI V k - bitI n k - (borrowN V n k : Nat)) % 2 = bitI (V + 2 ^ 128 - n) k) := by unfold Hid; rw [bitI_nat, bitI_nat, bitI_nat]; omega
      clear hst
      have r1 := bitI_range V k
      have r2 := bitI_range n k
      generalize bitI V k = p at *
      generalize borrowN V n k = c at *
      go_wp2
      go_region
      go_wp2
      go_roundw
      case rel => exact ⟨k + 1, m + 1, by omega, by go_num, by rw [HC.out], by rw [← HT.out _ HQ.out]⟩
      case measure => simp [intOf]; omega
    · obtain rfl : k = 128 := by omega
      by_cases hnv : n ≤ V
      · rw [borrow_end hV (by omega), if_pos hnv, subUp_full hV hnv]
        rw [HE.out hnv] at HCF
        have hbw : Below w2.heap.size w2 (((w2.alloc (.cells (arr 136 (bitI (V - n))) 46)).alloc (.cells (arr 136 (bitI n)) 46)).drewN m) := (((Below.refl _ _).alloc (Nat.le_refl _) _).alloc (by simp) _).drewN m
        have hrw := hr2.below hbw (by omega)
        have hB3 := HB.out.trans (hbw.mono HB.out.size)
        have hsz3 := hbw.size
        go_wp2_with fail
        refine (HCF.out _).mono ?_
        rintro e w3 ⟨rfl, hb3⟩
        have hr3 := hrw.below hb3 (by omega)
        have HB3 := Lib.hid (hB3.trans (hb3.mono (by omega)))
        clear hbw hrw hB3 hb3 hr2 HB
        obtain ⟨tt, hfin⟩ := count_ret hr3 (rh : Nat) (rl : Nat)
        have HF := Lib.hid hfin
        clear hfin
        go_wp2
        exact bodyPost_ret (results_row_tmp (p := 4) (q := 5) rfl _ _ (w.heap.size + 1) tt _ (0, 0) _ rfl HF.out Try.underlying24 rfl (by kernel_rfl)) rfl ⟨rfl, below_setRow HB3.out (by omega) _⟩
      · rw [borrow_end hV (by omega), if_neg hnv]
        obtain ⟨rfl, rfl, rfl⟩ := HZ.out hnv
        have hbw : Below w2.heap.size w2 (((w2.alloc (.cells (subUp V n 128) 46)).alloc (.cells (arr 136 (bitI n)) 46)).drewN m) := (((Below.refl _ _).alloc (Nat.le_refl _) _).alloc (by simp) _).drewN m
        have hrw := hr2.below hbw (by omega)
        have HB3 := Lib.hid (HB.out.trans (hbw.mono HB.out.size))
        clear hbw hr2 HB
        generalize ((w2.alloc (.cells (subUp V n 128) 46)).alloc (.cells (arr 136 (bitI n)) 46)).drewN m = w3 at *
        obtain ⟨tt, hfin⟩ := count_ret hrw 0 0
        have HF := Lib.hid hfin
        clear hfin
        go_wp2
        exact bodyPost_ret (results_row_tmp (p := 4) (q := 5) rfl _ _ (w.heap.size + 1) tt _ (0, 0) _ rfl HF.out Try.underlying24 rfl (by kernel_rfl)) rfl ⟨rfl, below_setRow HB3.out (by omega) _⟩
end Go.Proofs.Ytholhpkjcomboaa
