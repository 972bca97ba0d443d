/- Layer 5: the program's numbers of 256 bits: products. -/
import Derived.Test.YtechcmjmdepglaaDoorRefmul
import Derived.Laws.Externs
import Derived.Lib.Mul64
import Derived.Laws.Bits64b
namespace Go.Proofs.YtechcmjmdepglaaDoor
open Go.RowKit
set_option linter.unusedVariables false
set_option linter.unusedSimpArgs false

/-! ### math/bits -/
theorem mul_mask (a : Nat) (ha : a < 18446744073709551616) : bits .and .u64 (a : Int) 4294967295 = ((a % 4294967296 : Nat) : Int) := by
  have h := bits_and_u64_nat a 4294967295 ha (by omega)
  have e : a &&& 4294967295 = a % 4294967296 := Nat.and_two_pow_sub_one_eq_mod a 32
  rw [e] at h
  exact h
theorem mul_half (a : Nat) : (a : Int) / 4294967296 = ((a / 4294967296 : Nat) : Int) := by omega
theorem mul_in (a : Nat) (ha : a < 18446744073709551616) : IntKind.u64.wrap (a : Int) = (a : Int) := by rw [IntKind.wrap_u64]; omega
theorem mul_cut (a : Nat) : IntKind.u64.wrap (a : Int) = ((a % 18446744073709551616 : Nat) : Int) := by rw [IntKind.wrap_u64]; omega
set_option maxHeartbeats 1000000 in
theorem mul64_any (x y : Nat) (hx : x < 18446744073709551616) (hy : y < 18446744073709551616) (w : World) :
    Calls Tryd.prog 78 #[.int .u64 (x : Int), .int .u64 (y : Int)] w fun e w' => e = .returned (.tuple #[.int .u64 ((x * y / 18446744073709551616 : Nat) : Int), .int .u64 ((x * y % 18446744073709551616 : Nat) : Int)]) ∧ w = w' := by
  obtain ⟨h1, h2, h3, hhi⟩ := Lib.mul64_hi x y hx hy
  have ba := Lib.half_mul_le (a := x / 4294967296) (b := y / 4294967296) (by omega) (by omega)
  have bb := Lib.half_mul_le (a := x / 4294967296) (b := y % 4294967296) (by omega) (by omega)
  have bc := Lib.half_mul_le (a := x % 4294967296) (b := y / 4294967296) (by omega) (by omega)
  go_enter Tryd.func78, Tryd.ntmps78
  go_wp2
  have t1 := mul_in _ (show x % 4294967296 * (y % 4294967296) < 18446744073709551616 by omega)
  have t2 := mul_in _ (show x / 4294967296 * (y % 4294967296) < 18446744073709551616 by omega)
  have t3 := mul_in _ (show x % 4294967296 * (y / 4294967296) < 18446744073709551616 by omega)
  have t4 := mul_in _ (show x / 4294967296 * (y / 4294967296) < 18446744073709551616 by omega)
  have t5 := mul_in _ h2
  have t6 := mul_mask _ h2
  have t7 := mul_in _ h3
  have t8 := mul_in _ (show x / 4294967296 * (y / 4294967296) + (x / 4294967296 * (y % 4294967296) + x % 4294967296 * (y % 4294967296) / 4294967296) / 4294967296 < 18446744073709551616 by omega)
  have t9 := mul_in _ (show x / 4294967296 * (y / 4294967296) + (x / 4294967296 * (y % 4294967296) + x % 4294967296 * (y % 4294967296) / 4294967296) / 4294967296 + ((x / 4294967296 * (y % 4294967296) + x % 4294967296 * (y % 4294967296) / 4294967296) % 4294967296 + x % 4294967296 * (y / 4294967296)) / 4294967296 < 18446744073709551616 by omega)
  simp only [mul_mask x hx, mul_mask y hy, mul_half, ← Int.natCast_mul, ← Int.natCast_add, t1, t2, t3, t4, t5, t6, t7, t8, t9, mul_cut (x * y)]
  rw [hhi]
  go_ret2
  exact ⟨rfl, rfl⟩
theorem add64r (x y : Nat) (w : World) : (callFunc 79 #[.int .u64 (x : Int), .int .u64 (y : Int), .int .u64 0]).run Tryd.prog w =
    .ok (.value (.tuple #[.int .u64 (((x + y) % 18446744073709551616 : Nat) : Int), .int .u64 (((x + y) / 18446744073709551616 : Nat) : Int)])) w := by
  rw [run_callFunc_extern Tryd.func79 (by kernel_rfl) (by kernel_rfl) (by kernel_rfl) (e := add64Entry) (by kernel_rfl), run_add64 x y 0 (by omega) (by omega) (by omega) (by omega)]
  simp only [Result.andThen]
  congr 5 <;> omega
/-! ### Numbers of words of 64 bits -/
def valQ : Nat → (Nat → Nat) → Nat
  | 0, _ => 0
  | n + 1, f => valQ n f + f n * 18446744073709551616 ^ n
theorem valQ_congr {n : Nat} {f g : Nat → Nat} (h : ∀ i, i < n → f i = g i) : valQ n f = valQ n g := by
  induction n with
  | zero => rfl
  | succ n ih => rw [valQ, valQ, ih fun i hi => h i (by omega), h n (by omega)]
theorem valQ_upd (f : Nat → Nat) (k v : Nat) : ∀ n, k < n → valQ n (updF f k v) + f k * 18446744073709551616 ^ k = valQ n f + v * 18446744073709551616 ^ k
  | n + 1, h => by
    rw [valQ, valQ]
    by_cases hk : k = n
    · subst hk
      rw [valQ_congr (g := f) fun i hi => by unfold updF; rw [if_neg (by omega)], show updF f k v k = v from if_pos rfl]
      omega
    · have ih := valQ_upd f k v n (by omega)
      rw [show updF f k v n = f n from if_neg (by omega)]
      omega
theorem valQ_zeros (n : Nat) : valQ n (fun _ => 0) = 0 := by
  induction n with
  | zero => rfl
  | succ n ih => rw [valQ, ih]; simp
theorem valQ_lt {f : Nat → Nat} (h : ∀ i, f i < 18446744073709551616) (n : Nat) : valQ n f < 18446744073709551616 ^ n := by
  induction n with
  | zero => simp [valQ]
  | succ n ih =>
    rw [valQ, Nat.pow_succ]
    have h2 : f n * 18446744073709551616 ^ n ≤ 18446744073709551615 * 18446744073709551616 ^ n := Nat.mul_le_mul_right _ (by have := h n; omega)
    omega
/-- The words of a number. -/
def dgQ (V i : Nat) : Nat := V / 18446744073709551616 ^ i % 18446744073709551616
theorem dgQ_lt (V i : Nat) : dgQ V i < 18446744073709551616 := Nat.mod_lt _ (by omega)
theorem dgQ_val (V : Nat) : ∀ n, valQ n (dgQ V) = V % 18446744073709551616 ^ n
  | 0 => by simp [valQ, Nat.mod_one]
  | n + 1 => by rw [valQ, dgQ_val V n, Nat.pow_succ, Nat.mod_mul, dgQ, Nat.mul_comm (18446744073709551616 ^ n)]
theorem dgQ_of {f : Nat → Nat} (h : ∀ i, f i < 18446744073709551616) : ∀ n i, i < n → dgQ (valQ n f) i = f i
  | n + 1, i, hi => by
    by_cases h1 : i < n
    · rw [← dgQ_of h n i h1]
      unfold dgQ
      rw [valQ, show 18446744073709551616 ^ n = 18446744073709551616 ^ i * (18446744073709551616 * 18446744073709551616 ^ (n - i - 1)) by rw [← Nat.pow_succ', ← Nat.pow_add]; congr 1; omega]
      rw [Nat.mul_comm (f n), Nat.mul_assoc, Nat.add_mul_div_left _ _ (Nat.pow_pos (by omega)), Nat.mul_assoc, Nat.add_mul_mod_self_left]
    · obtain rfl : i = n := by omega
      unfold dgQ
      rw [valQ, Nat.add_mul_div_right _ _ (Nat.pow_pos (by omega)), Nat.div_eq_of_lt (valQ_lt h i), Nat.zero_add, Nat.mod_eq_of_lt (h i)]
theorem dgQ_mod (V n i : Nat) (h : i < n) : dgQ (V % 18446744073709551616 ^ n) i = dgQ V i := by
  rw [← dgQ_val, dgQ_of (dgQ_lt V) n i h]
theorem uTab_congr {n : Nat} {f g : Nat → Nat} (h : ∀ i, i < n → f i = g i) : uTab n f = uTab n g := tab_congr fun i hi => by rw [h i hi]
/-- Four words that come to V. -/
theorem uTab_words {f : Nat → Nat} {V : Nat} (h : ∀ i, f i < 18446744073709551616) (hv : valQ 4 f = V % 18446744073709551616 ^ 4) : uTab 4 f = uTab 4 (dgQ V) :=
  uTab_congr fun i hi => by rw [← dgQ_mod V 4 i hi, ← hv, dgQ_of h 4 i hi]
def numV (V : Nat) : Value := .agg (uTab 4 (dgQ V))
theorem four_zeros : #[Value.int .u64 0, .int .u64 0, .int .u64 0, .int .u64 0] = uTab 4 fun _ => 0 := by kernel_rfl
theorem uTab_ones (n : Nat) (f : Nat → Nat) : OneCells (uTab n f) := tab_one _ _ fun _ => rfl
attribute [go_sem] uTab_ones

/-! ### Whole numbers, loaded and stored -/
theorem loadN (x : Value) : Instr.loadAt 61 x = loadRow 61 x := rfl
theorem storeN (x y : Value) : Instr.storeAt 61 x y = storeRow 61 x y := rfl
theorem run_loadN {w : World} {n : Nat} (hg : RowOk w n 4) : (loadRow 61 (.pointer (some ⟨n, 0, none⟩))).run Tryd.prog w = .ok (.agg (rowAt w n)) w :=
  loadAt_row hg Tryd.underlying61 rfl (by kernel_rfl)
theorem run_storeN {w : World} {n : Nat} {c' : Array Value} (hg : RowOk w n 4) (hs' : c'.size = 4) (h1 : OneCells c') :
    (storeRow 61 (.pointer (some ⟨n, 0, none⟩)) (.agg c')).run Tryd.prog w = .ok () (w.setRow n c') := storeAt_row hg (by kernel_rfl) hs' h1
attribute [go_sem ↓] loadN storeN
attribute [go_sem] run_loadN run_storeN

theorem index_num (f : Nat → Nat) (j : Nat) (h : j < 4) (w : World) : (Instr.index 61 (.agg (uTab 4 f)) (.int .i64 (j : Int))).run Tryd.prog w = .ok (.int .u64 (f j : Nat)) w := by
  have h0 : (Instr.index 61 (.agg (uTab 4 f)) (.int .i64 0)).run Tryd.prog w = .ok (.int .u64 (f 0 : Nat)) w := by kernel_rfl
  have h1 : (Instr.index 61 (.agg (uTab 4 f)) (.int .i64 1)).run Tryd.prog w = .ok (.int .u64 (f 1 : Nat)) w := by kernel_rfl
  have h2 : (Instr.index 61 (.agg (uTab 4 f)) (.int .i64 2)).run Tryd.prog w = .ok (.int .u64 (f 2 : Nat)) w := by kernel_rfl
  have h3 : (Instr.index 61 (.agg (uTab 4 f)) (.int .i64 3)).run Tryd.prog w = .ok (.int .u64 (f 3 : Nat)) w := by kernel_rfl
  match j, h with
  | 0, _ => exact h0
  | 1, _ => exact h1
  | 2, _ => exact h2
  | 3, _ => exact h3
theorem slice_num (a : Addr) (j L : Nat) (hL : j + L = 4) (w : World) : (Instr.sliceAt 61 (.pointer (some a)) none (some (.int .i64 (4 - (j : Int)))) none).run Tryd.prog w = .ok (.slice (some a) L 4) w := by
  have h0 : (Instr.sliceAt 61 (.pointer (some a)) none (some (.int .i64 0)) none).run Tryd.prog w = .ok (.slice (some a) 0 4) w := by kernel_rfl
  have h1 : (Instr.sliceAt 61 (.pointer (some a)) none (some (.int .i64 1)) none).run Tryd.prog w = .ok (.slice (some a) 1 4) w := by kernel_rfl
  have h2 : (Instr.sliceAt 61 (.pointer (some a)) none (some (.int .i64 2)) none).run Tryd.prog w = .ok (.slice (some a) 2 4) w := by kernel_rfl
  have h3 : (Instr.sliceAt 61 (.pointer (some a)) none (some (.int .i64 3)) none).run Tryd.prog w = .ok (.slice (some a) 3 4) w := by kernel_rfl
  have h4 : (Instr.sliceAt 61 (.pointer (some a)) none (some (.int .i64 4)) none).run Tryd.prog w = .ok (.slice (some a) 4 4) w := by kernel_rfl
  rw [show (4 : Int) - (j : Int) = (L : Int) by omega]
  match L, (by omega : L ≤ 4) with
  | 0, _ => exact h0
  | 1, _ => exact h1
  | 2, _ => exact h2
  | 3, _ => exact h3
  | 4, _ => exact h4

/-- The end of a call that tells a number, from the result's cell. -/
theorem num_ret {fn : Func} {Q : Ending → World → Prop} {a : Act} {w : World} {n p : Nat} {V : Nat} (hr : fn.results = #[.cell p 61]) (hp : a.tmps.getD p undef = .pointer (some ⟨n, 0, none⟩)) (hn : RowOk w n 4) (hv : rowAt w n = uTab 4 (dgQ V)) (hd : a.defers = []) (hQ : Q (.returned (numV V)) w) : bodyPost Tryd.prog fn Q .ret a w := by
  obtain ⟨t, hg, hs⟩ := hn.heap
  rw [hv] at hg hs
  exact bodyPost_ret (results_cell_row hr _ _ n t _ (0, 0) _ hp hg Tryd.underlying61 rfl (by rw [hs]; kernel_rfl)) hd hQ

/-! ### A step of the product -/
theorem mac_step (f p c : Nat) (hf : f < 18446744073709551616) (hp : p ≤ 340282366920938463426481119284349108225) (hc : c < 18446744073709551616) :
    p / 18446744073709551616 + (f + p % 18446744073709551616) / 18446744073709551616 < 18446744073709551616 ∧
    p / 18446744073709551616 + (f + p % 18446744073709551616) / 18446744073709551616 + ((f + p % 18446744073709551616) % 18446744073709551616 + c) / 18446744073709551616 < 18446744073709551616 ∧
    ((f + p % 18446744073709551616) % 18446744073709551616 + c) % 18446744073709551616 + 18446744073709551616 * (p / 18446744073709551616 + (f + p % 18446744073709551616) / 18446744073709551616 + ((f + p % 18446744073709551616) % 18446744073709551616 + c) / 18446744073709551616) = f + p + c := by omega
/-- What the inner loop holds. -/
def InnerQ (i : Nat) (Y V x : Nat) (f : Nat → Nat) (c k : Nat) : Prop :=
  (∀ j, f j < 18446744073709551616) ∧ c < 18446744073709551616 ∧ valQ 4 f + c * 18446744073709551616 ^ (i + k) = V + x * (Y % 18446744073709551616 ^ k) * 18446744073709551616 ^ i
theorem innerQ_step {i Y V x : Nat} {f : Nat → Nat} {c k s c' : Nat} (hn : i + k < 4) (h : InnerQ i Y V x f c k) (hs : s < 18446744073709551616) (hc' : c' < 18446744073709551616) (he : s + 18446744073709551616 * c' = f (i + k) + x * dgQ Y k + c) :
    InnerQ i Y V x (updF f (i + k) s) c' (k + 1) := by
  obtain ⟨h1, h2, h3⟩ := h
  refine ⟨fun j => by unfold updF; split; exact hs; exact h1 j, hc', ?_⟩
  have hu := valQ_upd f (i + k) s 4 hn
  rw [show i + (k + 1) = i + k + 1 by omega, Nat.pow_succ, Nat.pow_succ 18446744073709551616 k, Nat.mod_mul, show Y / 18446744073709551616 ^ k % 18446744073709551616 = dgQ Y k from rfl, Nat.mul_add, Nat.add_mul]
  have e : x * (18446744073709551616 ^ k * dgQ Y k) * 18446744073709551616 ^ i = x * dgQ Y k * 18446744073709551616 ^ (i + k) := by
    rw [Nat.pow_add, Nat.mul_comm (18446744073709551616 ^ k), ← Nat.mul_assoc, Nat.mul_assoc (x * dgQ Y k), Nat.mul_comm (18446744073709551616 ^ k)]
  rw [e, ← Nat.add_assoc, ← h3]
  generalize 18446744073709551616 ^ (i + k) = P at *
  have e2 : (s + 18446744073709551616 * c') * P = (f (i + k) + x * dgQ Y k + c) * P := by rw [he]
  rw [Nat.add_mul, Nat.add_mul, Nat.add_mul, Nat.mul_comm 18446744073709551616, Nat.mul_assoc] at e2
  rw [Nat.mul_comm P]
  omega
def OuterQ (X Y : Nat) (f : Nat → Nat) (i : Nat) : Prop := (∀ j, f j < 18446744073709551616) ∧ valQ 4 f = X % 18446744073709551616 ^ i * Y % 18446744073709551616 ^ 4
theorem outerQ_in {X Y : Nat} {f : Nat → Nat} {i : Nat} (h : OuterQ X Y f i) : InnerQ i Y (X % 18446744073709551616 ^ i * Y % 18446744073709551616 ^ 4) (dgQ X i) f 0 0 :=
  ⟨h.1, by omega, by rw [h.2]; simp [Nat.mod_one]⟩
theorem outerQ_out {X Y : Nat} {f : Nat → Nat} {i c : Nat} (hi : i < 4) (h : InnerQ i Y (X % 18446744073709551616 ^ i * Y % 18446744073709551616 ^ 4) (dgQ X i) f c (4 - i)) : OuterQ X Y f (i + 1) := by
  obtain ⟨h1, h2, h3⟩ := h
  refine ⟨h1, ?_⟩
  rw [show i + (4 - i) = 4 by omega] at h3
  have h4 := congrArg (· % 18446744073709551616 ^ 4) h3
  simp only [Nat.add_mul_mod_self_right] at h4
  rw [Nat.mod_eq_of_lt (valQ_lt h1 4)] at h4
  rw [h4, Nat.pow_succ 18446744073709551616 i, Nat.mod_mul, show X / 18446744073709551616 ^ i % 18446744073709551616 = dgQ X i from rfl, Nat.add_mul, Nat.add_mod, Nat.mod_mod, Nat.add_mod (X % 18446744073709551616 ^ i * Y)]
  congr 2
  have e : 18446744073709551616 ^ 4 = 18446744073709551616 ^ (4 - i) * 18446744073709551616 ^ i := by rw [← Nat.pow_add]; congr 1; omega
  rw [Nat.mul_comm (18446744073709551616 ^ i) (dgQ X i), Nat.mul_assoc (dgQ X i) _ Y, Nat.mul_comm (18446744073709551616 ^ i) Y, ← Nat.mul_assoc, e, Nat.mul_mod_mul_right, Nat.mul_mod_mul_right, Nat.mul_mod (dgQ X i), Nat.mod_mod, ← Nat.mul_mod]
set_option maxHeartbeats 4000000 in
theorem times_any (X Y : Nat) (w : World) :
    Calls Tryd.prog 71 #[numV X, numV Y] w fun e w' => e = .returned (numV (X * Y)) ∧ Below w.heap.size w w' := by
  have HM := Lib.hid (fun x y hx hy W => mul64_any x y hx hy W)
  have hz4 := four_zeros
  unfold numV
  go_enter Tryd.func71, Tryd.ntmps71
  go_wp2
  go_loopw [6, 7, 8, 9, 10, 11, 12, 13, 14, 16] (fun _ _ _ _ _ _ _ _ _ i wr => ∃ (j : Nat) (f : Nat → Nat), j ≤ 4 ∧ i = .int .i64 j ∧ Hid (OuterQ X Y f j) ∧
    wr = ((((w.alloc (.cells (uTab 4 (dgQ X)) 61)).alloc (.cells (uTab 4 (dgQ Y)) 61)).alloc (.cells (uTab 4 fun _ => 0) 61)).alloc (.cells (uTab 4 f) 61))) (fun _ _ _ _ _ _ _ _ _ i _ => 4 - (intOf i).toNat)
  case atStart => exact ⟨0, fun _ => 0, by omega, rfl, ⟨fun _ => by show 0 < 18446744073709551616; omega, by rw [valQ_zeros]; simp [Nat.mod_one]⟩, rfl⟩
  case round =>
    obtain ⟨j, f, hj, rfl, ho, rfl⟩ := hrel
    by_cases hlt : j < 4
    · have hin := outerQ_in ho.out
      have hxj := dgQ_lt X j
      have hxe := uTab_at 4 (dgQ X) j hlt
      obtain ⟨V, hV⟩ : ∃ v, v = X % 18446744073709551616 ^ j * Y % 18446744073709551616 ^ 4 := ⟨_, rfl⟩
      have HO : Hid (∀ g c, InnerQ j Y V (dgQ X j) g c (4 - j) → OuterQ X Y g (j + 1)) := fun g c h => outerQ_out hlt (by rw [← hV]; exact h)
      rw [← hV] at hin
      have hix := index_num (dgQ X) j hlt
      obtain ⟨L, hL⟩ : ∃ L, j + L = 4 := ⟨4 - j, by omega⟩
      have hsl := slice_num ⟨w.heap.size + 1, 0, none⟩ j L hL
      rw [show 4 - j = L by omega] at HO
      have HIN := Lib.hid hin
      clear hV ho hin
      generalize dgQ X j = x at *
      go_wp2
      go_loopw [8, 9, 10, 11, 12, 13, 14, 24] (fun cv _ _ _ _ _ _ kv wr => ∃ (k c : Nat) (f : Nat → Nat), k ≤ L ∧ kv = .int .i64 k ∧ cv = .int .u64 c ∧ c < 18446744073709551616 ∧ Hid (InnerQ j Y V x f c k) ∧
        wr = ((((w.alloc (.cells (uTab 4 (dgQ X)) 61)).alloc (.cells (uTab 4 (dgQ Y)) 61)).alloc (.cells (uTab 4 fun _ => 0) 61)).alloc (.cells (uTab 4 f) 61))) (fun _ _ _ _ _ _ _ kv _ => 4 - (intOf kv).toNat)
      case atStart => exact ⟨0, 0, f, by omega, rfl, rfl, by omega, HIN, rfl⟩
      case round =>
        obtain ⟨k, c, f, hk, rfl, rfl, hc, hi, rfl⟩ := hrel
        by_cases hkl : k < L
        · have hyk := dgQ_lt Y k
          have hye := uTab_at 4 (dgQ Y) k (by omega)
          have hcz := uTab_at 4 f (j + k) (by omega)
          have hsz := uTab_size 4 f
          have hfl := hi.out.1 (j + k)
          have HS := Lib.hid (fun s c' => innerQ_step (s := s) (c' := c') (by omega : j + k < 4) hi.out)
          have hu := Lib.hid (fun v u => uTab_set 4 f (j + k) v u)
          generalize dgQ Y k = y at *
          have hp : x * y ≤ 18446744073709551615 * 18446744073709551615 := Nat.mul_le_mul (by omega) (by omega)
          have HM1 := Lib.hid (HM.out x y hxj hyk)
          generalize x * y = p at *
          have HX := Lib.hid (mac_step (f (j + k)) p c hfl hp hc)
          have A1 := fun W => add64r (f (j + k)) (p % 18446744073709551616) W
          have A2 := fun W => add64r ((f (j + k) + p % 18446744073709551616) % 18446744073709551616) c W
          have b1 := HX.out.1
          have b2 := HX.out.2.1
          have b3 : ((f (j + k) + p % 18446744073709551616) % 18446744073709551616 + c) % 18446744073709551616 < 18446744073709551616 := Nat.mod_lt _ (by omega)
          generalize ((f (j + k) + p % 18446744073709551616) % 18446744073709551616 + c) % 18446744073709551616 = s2 at *
          generalize ((f (j + k) + p % 18446744073709551616) % 18446744073709551616 + c) / 18446744073709551616 = o2 at *
          generalize (f (j + k) + p % 18446744073709551616) % 18446744073709551616 = s1 at *
          generalize (f (j + k) + p % 18446744073709551616) / 18446744073709551616 = o1 at *
          generalize p % 18446744073709551616 = lo at *
          generalize p / 18446744073709551616 = hi at *
          generalize f (j + k) = z at *
          clear hp
          go_wp2_with fail
          refine (HM1.out _).mono ?_
          rintro e w' ⟨rfl, rfl⟩
          go_wp2_with (first | simp only [A1] | simp only [A2])
          go_roundw
          case rel =>
            refine ⟨k + 1, hi + o1 + o2, updF f (j + k) s2, by omega, by go_num, by go_num, by omega, HS.out _ _ b3 b2 HX.out.2.2, ?_⟩
            rw [hu.out s2 _ rfl]
          case measure => simp [intOf]; omega
        · obtain rfl : k = L := by omega
          have HN := Lib.hid (HO.out _ _ hi.out)
          go_wp2
          go_roundw
          case rel => exact ⟨j + 1, f, by omega, by go_num, HN.out, rfl⟩
          case measure => simp [intOf]; omega
    · obtain rfl : j = 4 := by omega
      have hv : uTab 4 f = uTab 4 (dgQ (X * Y)) := uTab_words ho.out.1 (by rw [ho.out.2, Nat.mod_mul_mod])
      rw [hv]
      clear ho hv
      go_wp2
      refine num_ret (n := w.heap.size + 1 + 1) (p := 4) (V := X * Y) rfl rfl (by simp [go_sem]) (by simp [go_sem]) rfl ⟨rfl, ((((Below.refl _ _).alloc (Nat.le_refl _) _).alloc (by simp) _).alloc (by simp; omega) _).alloc (by simp; omega) _⟩
end Go.Proofs.YtechcmjmdepglaaDoor
