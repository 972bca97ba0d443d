/- Layer 15: SpongePieces, walked in private. -/
import Derived.Test.YtopelmhpahohfaaDoorStarw4
import Derived.Test.YtopelmhpahohfaaDoorBns
import Derived.Test.YtopelmhpahohfaaDoorBnh
import Derived.Test.YtopelmhpahohfaaDoorBnq
import Derived.Test.YtopelmhpahohfaaDoorBnt
namespace Go.Proofs.YtopelmhpahohfaaDoor.Co
open Go.Conc
open Go.RowKit L64 Rw Ln Sg Spo
set_option linter.unusedVariables false
set_option linter.unusedSimpArgs false
/-- Parts, byte by byte. -/
theorem wrP_wB : ∀ (q R : Nat) (f : Nat → Nat) (p : Nat) (xs : List Nat), 0 < R → p < R → AllLt 256 xs → xs.length ≤ q → wrP q R f p xs = wB R f p xs
  | 0, R, f, p, xs, _, _, _, hq => by
    obtain rfl : xs = [] := List.eq_nil_of_length_eq_zero (by omega)
    rfl
  | q + 1, R, f, p, xs, hR, hp, hx, hq => by
    unfold wrP
    by_cases h0 : xs.length = 0
    · obtain rfl : xs = [] := List.eq_nil_of_length_eq_zero h0
      rfl
    · rw [if_neg h0]
      have hl : (xs.take (min (R - p) xs.length)).length = min (R - p) xs.length := by rw [List.length_take]; omega
      have hne : xs.take (min (R - p) xs.length) ≠ [] := fun h => by rw [h] at hl; simp at hl; omega
      rw [wrP_wB q R _ _ _ hR (absP_lt (by rw [hl]; omega) hR) (hx.drop _) (by rw [List.length_drop]; omega)]
      have e := wB_append R (xs.take (min (R - p) xs.length)) (xs.drop (min (R - p) xs.length)) f p
      rw [List.take_append_drop, wB_part R _ f p (hx.take _) hne (by rw [hl]; omega)] at e
      exact e.symm
/-- What reading m bytes leaves, and tells. -/
def stF (R S : Nat) (f : Nat → Nat) (p m : Nat) : Nat → Nat := if m = 0 then f else sqF R m (turned R S f p) 0
def stP (R p m : Nat) : Nat := if m = 0 then p else sqP R m 0
theorem st_read (R S : Nat) (f : Nat → Nat) (p m N : Nat) :
    sqB R m (turned R S f p) 0 ++ sqB R N (rdF R S (stF R S f p m) (stP R p m) (decide (0 < m)) N) (rdP (stP R p m) (decide (0 < m)) N) = sqB R (m + N) (turned R S f p) 0 ∧
    sqF R N (rdF R S (stF R S f p m) (stP R p m) (decide (0 < m)) N) (rdP (stP R p m) (decide (0 < m)) N) = stF R S f p (m + N) ∧
    sqP R N (rdP (stP R p m) (decide (0 < m)) N) = stP R p (m + N) ∧ rdR (decide (0 < m)) N = decide (0 < m + N) := by
  have hr : rdR (decide (0 < m)) N = decide (0 < m + N) := by
    unfold rdR
    by_cases h1 : 0 < m <;> by_cases h2 : 0 < N <;> simp [h1, h2] <;> omega
  rcases Nat.eq_zero_or_pos m with rfl | hm
  · have e1 : stF R S f p 0 = f := if_pos rfl
    have e2 : stP R p 0 = p := if_pos rfl
    rw [e1, e2]
    rcases Nat.eq_zero_or_pos N with rfl | hN
    · exact ⟨rfl, rfl, rfl, hr⟩
    · have h3 : rdF R S f p (decide (0 < 0)) N = turned R S f p := if_pos ⟨hN, by simp⟩
      have h4 : rdP p (decide (0 < 0)) N = 0 := if_pos ⟨hN, by simp⟩
      rw [h3, h4, Nat.zero_add] at *
      refine ⟨rfl, ?_, ?_, hr⟩
      · unfold stF; rw [if_neg (by omega)]
      · unfold stP; rw [if_neg (by omega)]
  · have e1 : stF R S f p m = sqF R m (turned R S f p) 0 := if_neg (by omega)
    have e2 : stP R p m = sqP R m 0 := if_neg (by omega)
    have e3 : rdF R S (stF R S f p m) (stP R p m) (decide (0 < m)) N = stF R S f p m := if_neg (by simp; omega)
    have e4 : rdP (stP R p m) (decide (0 < m)) N = stP R p m := if_neg (by simp; omega)
    obtain ⟨h1, h2, h3⟩ := sq_add R m N (turned R S f p) 0
    rw [e3, e4, e1, e2]
    refine ⟨h1.symm, ?_, ?_, hr⟩
    · unfold stF; rw [if_neg (by omega), h2]
    · unfold stP; rw [if_neg (by omega), h3]
theorem stF_lt {R S : Nat} {f : Nat → Nat} {p m : Nat} (hf : ∀ i, f i < 18446744073709551616) (i : Nat) : stF R S f p m i < 18446744073709551616 := by
  unfold stF; split
  · exact hf i
  · exact sqF_lt R m _ _ (fun i => turned_lt i) i
theorem stP_le {R p m : Nat} (hR : 0 < R) (hp : p ≤ R) : stP R p m ≤ R := by
  unfold stP; split
  · exact hp
  · exact sqP_le R hR m 0 (by omega)
/-- What a read tells and leaves. -/
theorem read_st (R S : Nat) (f : Nat → Nat) (hf : ∀ i, f i < 18446744073709551616) (p : Nat) (hR : 0 < R) (hR2 : R ≤ 200) (hS : S < 256) (hp : p ≤ R) (m z : Nat) (hz : z < 256) (B : Nat) (w : World) (hs : Sp w B R S (stF R S f p m) (stP R p m) (decide (0 < m))) (ht : OTab w) (hof : 0 ≠ B) :
    Calls Star.prog 14 #[.pointer (some ⟨B, 0, none⟩), .int .i64 (z : Nat)] w fun e w' => ∃ A3 c3 ys, e = .returned (.tuple #[.slice A3 z c3, .int .i64 0]) ∧ ys.length = z ∧ Words .u8 w' A3 ys ∧ sqB R m (turned R S f p) 0 ++ ys = sqB R (m + z) (turned R S f p) 0 ∧
      Turns B 29 (spC R S (stF R S f p (m + z)) (stP R p (m + z)) (decide (0 < m + z))) w w' :=
  (read_any B R S _ (stF_lt hf) _ hR hR2 hS (stP_le hR hp) _ z (by omega) w hs ht hof).mono fun e w' ⟨v, h1, h2, h3⟩ => by
    obtain ⟨A3, c3, hv, hw⟩ := h2.words
    rw [sqB_length] at hv
    subst hv
    obtain ⟨e1, e2, e3, e4⟩ := st_read R S f p m z
    rw [e2, e3, e4] at h3
    exact ⟨A3, c3, _, h1, sqB_length _ _ _ _, hw, e1, h3⟩
/-- A sponge of the call's own, beside what it was handed. -/
structure PF (W w : World) (B R S : Nat) (f : Nat → Nat) (p : Nat) (rd : Bool) (A : Option Addr) (xs : List Nat) (C : Option Addr) (zs : List Nat) : Prop where
  sp : Sp w B R S f p rd
  ot : OTab w
  wb : Words .u8 w A xs
  wz : Words .u8 w C zs
theorem PF.taped {W w : World} {B R S : Nat} {f : Nat → Nat} {p : Nat} {rd : Bool} {A : Option Addr} {xs : List Nat} {C : Option Addr} {zs : List Nat} (h : PF W w B R S f p rd A xs C zs) (T : Tape) : PF W (w.taped T) B R S f p rd A xs C zs :=
  ⟨hold_taped h.sp T, otab_taped h.ot T, h.wb, h.wz⟩
theorem PF.turns {W w w' : World} {B R S : Nat} {f f' : Nat → Nat} {p p' : Nat} {rd rd' : Bool} {A : Option Addr} {xs : List Nat} {C : Option Addr} {zs : List Nat} (h : PF W w B R S f p rd A xs C zs) (ht : Turns B 29 (spC R S f' p' rd') w w')
    (hB : W.heap.size ≤ B) (hA : ∀ a, A = some a → a.block < W.heap.size) (hC : ∀ a, C = some a → a.block < W.heap.size) (hof : 0 ≠ B) : PF W w' B R S f' p' rd' A xs C zs :=
  ⟨ht.row, h.ot.turns ht hof, words_turns ht h.wb (fun a e => by have := hA a e; omega), words_turns ht h.wz (fun a e => by have := hC a e; omega)⟩
theorem PF.below {W w w' : World} {B R S : Nat} {f : Nat → Nat} {p : Nat} {rd : Bool} {A : Option Addr} {xs : List Nat} {C : Option Addr} {zs : List Nat} (h : PF W w B R S f p rd A xs C zs) (hb : Below w.heap.size w w') : PF W w' B R S f p rd A xs C zs :=
  ⟨h.sp.call hb, h.ot.below hb (Nat.le_refl _), h.wb.below hb (Nat.le_refl _), h.wz.below hb (Nat.le_refl _)⟩
/-- Which rate, which suffix. -/
def rateN (n : Nat) : Nat := rateL.getD (n % 5) 0
def sufN (n : Nat) : Nat := sufL.getD (n / 5 % 3) 0
theorem rateN_mem (n : Nat) : rateN n = 72 ∨ rateN n = 104 ∨ rateN n = 136 ∨ rateN n = 144 ∨ rateN n = 168 := by
  have h : n % 5 = 0 ∨ n % 5 = 1 ∨ n % 5 = 2 ∨ n % 5 = 3 ∨ n % 5 = 4 := by omega
  unfold rateN
  rcases h with h | h | h | h | h <;> rw [h] <;> simp [rateL]
theorem sufN_mem (n : Nat) : sufN n = 4 ∨ sufN n = 6 ∨ sufN n = 31 := by
  have h : n / 5 % 3 = 0 ∨ n / 5 % 3 = 1 ∨ n / 5 % 3 = 2 := by omega
  unfold sufN
  rcases h with h | h | h <;> rw [h] <;> simp [sufL]
theorem rate_at (n : Nat) : ([.int .i64 72, .int .i64 104, .int .i64 136, .int .i64 144, .int .i64 168] : List Value)[n % 5]? = some (.int .i64 (rateN n : Nat)) := by
  have h : n % 5 = 0 ∨ n % 5 = 1 ∨ n % 5 = 2 ∨ n % 5 = 3 ∨ n % 5 = 4 := by omega
  unfold rateN
  rcases h with h | h | h | h | h <;> rw [h] <;> rfl
theorem suf_at (n : Nat) : ([.int .i64 4, .int .i64 6, .int .i64 31] : List Value)[n / 5 % 3]? = some (.int .i64 (sufN n : Nat)) := by
  have h : n / 5 % 3 = 0 ∨ n / 5 % 3 = 1 ∨ n / 5 % 3 = 2 := by omega
  unfold sufN
  rcases h with h | h | h <;> rw [h] <;> rfl
theorem okB_pick (n : Nat) : okB (rateN n : Nat) (sufN n : Nat) 0 false = true := by
  rcases rateN_mem n with h | h | h | h | h <;> rcases sufN_mem n with k | k | k <;> rw [h, k] <;> kernel_rfl
def lit117 (u : Nat → Value) : Array Value := #[u 0, u 1, u 2, u 3, u 4, u 5, u 6, u 7, u 8, u 9, u 10, u 11, u 12, u 13, u 14, u 15, u 16, u 17, u 18, u 19, u 20, u 21, u 22, u 23, u 24, u 25, u 26, u 27, u 28, u 29, u 30, u 31, u 32, u 33, u 34, u 35, u 36, u 37, u 38, u 39, u 40, u 41, u 42, u 43, u 44, u 45, u 46, u 47, u 48, u 49, u 50, u 51, u 52, u 53, u 54, u 55, u 56, u 57, u 58, u 59, u 60, u 61, u 62, u 63, u 64, u 65, u 66, u 67, u 68, u 69, u 70, u 71, u 72, u 73, u 74, u 75, u 76, u 77, u 78, u 79, u 80, u 81, u 82, u 83, u 84, u 85, u 86, u 87, u 88, u 89, u 90, u 91, u 92, u 93, u 94, u 95, u 96, u 97, u 98, u 99, u 100, u 101, u 102, u 103, u 104, u 105, u 106, u 107, u 108, u 109, u 110, u 111, u 112, u 113, u 114, u 115, u 116]
theorem lit_of {a : Go.Act} (hs : a.tmps.size = 117) (hd : a.defers = []) : ∃ u : Nat → Value, a = { tmps := lit117 u, defers := [] } := by
  obtain ⟨tm, df⟩ := a
  simp only at hs hd
  subst hd
  refine ⟨fun k => tm.getD k undef, ?_⟩
  congr 1
  apply Array.ext'
  have e : tm.toList = (List.range 117).map fun k => tm.getD k undef := by
    apply List.ext_getElem?
    intro i
    rw [List.getElem?_map]
    by_cases hi : i < 117
    · rw [List.getElem?_range hi, Array.getElem?_toList, Array.getElem?_eq_getElem (by omega)]
      simp [Array.getD, hs, hi]
    · rw [List.getElem?_eq_none (by simp; omega), List.getElem?_eq_none (by simp; omega)]
      rfl
  rw [e]
  rfl
/-- The slots that a walk of this law reads again. -/
structure S4 (a : Go.Act) (A : Option Addr) (c nx : Nat) (C : Option Addr) (cz nz R S B : Nat) : Prop where
  size : a.tmps.size = 117
  defers : a.defers = []
  s1 : a.tmps.getD 1 undef = .slice A nx c
  s2 : a.tmps.getD 2 undef = .slice C nz cz
  s7 : a.tmps.getD 7 undef = .int .i64 (R : Nat)
  s8 : a.tmps.getD 8 undef = .int .i64 (S : Nat)
  s9 : a.tmps.getD 9 undef = .pointer (some ⟨B, 0, none⟩)
/-- Ahead of a round of the first loop. -/
def I4 (W : World) (A : Option Addr) (c : Nat) (xs : List Nat) (C : Option Addr) (cz : Nat) (zs : List Nat) (R S B : Nat) (n : Nat) (a : Go.Act) (w : World) : Prop :=
  S4 a A c xs.length C cz zs.length R S B ∧ ∃ j d A' c', n = zs.length - j ∧ j ≤ zs.length ∧ d ≤ xs.length ∧ a.tmps.getD 11 undef = .slice A' (xs.length - d) c' ∧ a.tmps.getD 12 undef = .int .i64 ((zs.take j).sum : Nat) ∧
    a.tmps.getD 57 undef = .slice C zs.length cz ∧ a.tmps.getD 58 undef = .int .i64 (zs.length : Nat) ∧ a.tmps.getD 59 undef = .int .i64 (j : Nat) ∧ xs.length - d ≤ c' ∧ Words .u8 w A' (xs.drop d) ∧ (∀ a, A' = some a → a.block < W.heap.size) ∧
    PF W w B R S (wB R (fun _ => 0) 0 (xs.take d)).1 (wB R (fun _ => 0) 0 (xs.take d)).2 false A xs C zs
theorem I4.taped {W : World} {A : Option Addr} {c : Nat} {xs : List Nat} {C : Option Addr} {cz : Nat} {zs : List Nat} {R S B : Nat} {n : Nat} {a : Go.Act} {w : World} (h : I4 W A c xs C cz zs R S B n a w) (T : Tape) : I4 W A c xs C cz zs R S B n a (w.taped T) := by
  obtain ⟨h0, j, d, A', c', h1, h2, h3, h4, h5, h6, h7, h8, h9, h10, h11, h12⟩ := h
  exact ⟨h0, j, d, A', c', h1, h2, h3, h4, h5, h6, h7, h8, h9, h10, h11, h12.taped T⟩
theorem sum_take_le {zs : List Nat} (hz : AllLt 256 zs) : ∀ j, (zs.take j).sum ≤ 255 * j
  | 0 => by simp
  | j + 1 => by
    have := sum_take_le hz j
    rw [List.take_add_one, List.sum_append]
    cases h : zs[j]? with
    | none => simp; omega
    | some x =>
      have := hz x (List.mem_of_getElem? h)
      simp
      omega
theorem sum_take_succ {zs : List Nat} {j : Nat} (hj : j < zs.length) : (zs.take (j + 1)).sum = (zs.take j).sum + zs.getD j 0 := by
  rw [List.take_add_one, List.sum_append, List.getD_eq_getElem?_getD, List.getElem?_eq_getElem hj]
  simp
theorem blk_if {A : Option Addr} {N n : Nat} {c : Prop} [Decidable c] (h : ∀ a, A = some a → a.block < N) (a : Addr) (e : (if c then A else A.map (·.add n)) = some a) : a.block < N := by
  split at e
  · exact h a e
  · cases A with
    | none => cases e
    | some x => 
      injection e with e
      have e2 : (x.add n).block = x.block := by unfold Addr.add; split <;> rfl
      rw [← e]
      show (x.add n).block < N
      rw [e2]
      exact h x rfl
namespace KEnv
/-- A lone piece, and what follows. -/
theorem wk_then {E : KEnv} (hX : E.Tight) {c x : Code} {Q : Exit → Go.Act → World → Prop} {a : Go.Act} {w : World} (h : ∀ T, c.wp E.P (fun e a' w' => e = .normal ∧ E.Wk x Q a' w') a (w.taped T)) : E.Wk (.seq c x) Q a w :=
  wk_seq hX (wk_mono (wk_wp hX (Q := fun e a' w' => e = .normal ∧ E.Wk x Q a' w') (fun e a w T ⟨h1, h2⟩ => ⟨h1, wk_tape h2 T⟩) h) (fun e a w ⟨h1, h2⟩ => by subst h1; exact h2))
/-- The last lone piece. -/
theorem wk_end {E : KEnv} (hX : E.Tight) {c : Code} {Q : Exit → Go.Act → World → Prop} {a : Go.Act} {w : World} (e0 : Exit) {M : Go.Act → World → Prop} (hM : ∀ a w T, M a w → M a (w.taped T)) (hQ : ∀ a w, M a w → Q e0 a w) (h : ∀ T, c.wp E.P (fun e a' w' => e = e0 ∧ M a' w') a (w.taped T)) : E.Wk c Q a w :=
  wk_mono (wk_wp hX (Q := fun e a' w' => e = e0 ∧ M a' w') (fun e a w T ⟨h1, h2⟩ => ⟨h1, hM _ _ T h2⟩) h) (fun e a w ⟨h1, h2⟩ => by subst h1; exact hQ a w h2)
theorem wk_endk {E : KEnv} (hX : E.Tight) {c x : Code} {Q Q2 : Exit → Go.Act → World → Prop} {a : Go.Act} {w : World} (hQ : ∀ a w, E.Wk x Q2 a w → Q .normal a w) (h : ∀ T, c.wp E.P (fun e a' w' => e = .normal ∧ E.Wk x Q2 a' w') a (w.taped T)) : E.Wk c Q a w :=
  wk_end hX .normal (M := fun a w => E.Wk x Q2 a w) (fun a w T h => wk_tape h T) hQ h
theorem wk_exitk {E : KEnv} (hX : E.Tight) {id : Nat} {c x : Code} {Q Q2 : Exit → Go.Act → World → Prop} {a : Go.Act} {w : World} (hQ : ∀ a w, E.Wk x Q2 a w → Q (.exit id) a w) (h : ∀ T, c.wp E.P (fun e a' w' => e = .exit id ∧ E.Wk x Q2 a' w') a (w.taped T)) : E.Wk c Q a w :=
  wk_end hX (.exit id) (M := fun a w => E.Wk x Q2 a w) (fun a w T h => wk_tape h T) hQ h
end KEnv
set_option maxRecDepth 20000 in
set_option maxHeartbeats 4000000 in
theorem pieces_goes (W : World) (n0 : Nat) (hn0 : n0 < 256) (A : Option Addr) (c : Nat) (xs : List Nat) (hx : AllLt 256 xs) (hlc : xs.length ≤ c) (hlm : xs.length ≤ maxLen) (hw : Words .u8 (ice W) A xs) (hA : ∀ a, A = some a → a.block < W.heap.size)
    (C : Option Addr) (cz : Nat) (zs : List Nat) (hzx : AllLt 256 zs) (hzc : zs.length ≤ cz) (hzm : zs.length ≤ maxLen) (hz : Words .u8 (ice W) C zs) (hC : ∀ a, C = some a → a.block < W.heap.size) (hO : OTab (ice W)) :
    (lawEnv W).Goes (LawStop Star.prog 4 (fun v _ => v = .bool true)) (G (Frame.enter Star.prog 4 #[.int .u8 (n0 : Int), .slice A xs.length c, .slice C zs.length cz] .normal) [botF]) (ice W) := by
  refine goes_lawT (lawEnv_tight W) (p := 6) (r := fun v => v = .bool true) Star.func4 rfl rfl ?_
  simp only [Star.ntmps4, List.size_toArray, List.length_cons, List.length_nil, Nat.reduceAdd, Nat.reduceSub, Array.replicate_succ, Array.replicate_zero, List.push_toArray, List.append_toArray, List.nil_append, List.cons_append]
  have CW : Hid (∀ w, OTab w → Calls Star.prog 7 #[] w fun e w' => e = .returned (.bool true) ∧ Below w.heap.size w w') := fun w h => wakes15_any w h
  by_cases hl : xs.length ≤ 400
  · have hd : decide ((400 : Int) < (xs.length : Int)) = false := decide_eq_false (by omega)
    by_cases hl2 : zs.length ≤ 12
    · have hd2 : decide ((12 : Int) < (zs.length : Int)) = false := decide_eq_false (by omega)
      have CN : Hid (∀ w, Calls Star.prog 19 #[.int .i64 (rateN n0 : Nat), .int .i64 (sufN n0 : Nat)] w fun e w' => ∃ B, e = .returned (.tuple #[.pointer (some ⟨B, 0, none⟩), .int .i64 0]) ∧ w.heap.size ≤ B ∧ Sp w' B (rateN n0) (sufN n0) (fun _ => 0) 0 false ∧ Below w.heap.size w w') := Lib.hid fun w => (new_any (rateN n0 : Nat) (sufN n0 : Nat) w).mono fun e w' h => h.1 (okB_pick n0)
      refine KEnv.wk_spine (lawEnv_tight W) [_, _, _, _, _, _, _, _] (x := _) (fun e a w h => ?_) (fun e a w T h => h) fun T => ?_
      · rcases h.1 with h | h
        · exact .inl h
        · exact .inr h
      have hO2 := otab_taped hO T
      have hw2 : Words .u8 ((ice W).taped T) A xs := hw
      have hz2 : Words .u8 ((ice W).taped T) C zs := hz
      generalize hWT : (ice W).taped T = w at *
      refine wpSpine_cons ?_
      show Code.wp Star.prog _ _ _ _
      go_wp2_with fail
      refine wpSpine_cons ?_
      show Code.wp Star.prog _ _ _ _
      go_wp2_with (go_at_call 7; (with_reducible refine (CW.out _ hO2).mono ?_); rintro e w1 ⟨rfl, hb1⟩; have HB1 := Lib.hid hb1; have HT1 := Lib.hid (hO2.below hb1 (Nat.le_refl _)); have HWd1 := Lib.hid (hw2.below hb1 (Nat.le_refl _)); have HZ1 := Lib.hid (hz2.below hb1 (Nat.le_refl _)); clear hb1)
      refine wpSpine_cons ?_
      show Code.wp Star.prog _ _ _ _
      go_wp2_with fail
      have hra := rate_at n0
      have hsa := suf_at n0
      refine wpSpine_cons ?_
      show Code.wp Star.prog _ _ _ _
      go_wp2_with fail
      refine wpSpine_cons ?_
      show Code.wp Star.prog _ _ _ _
      go_wp2_with fail
      clear hra hsa
      have HBa := Lib.hid (((Below.refl w1.heap.size w1).alloc (Nat.le_refl _) (.cells #[.int .i64 72, .int .i64 104, .int .i64 136, .int .i64 144, .int .i64 168] 3)).alloc (by simp) (.cells #[.int .i64 4, .int .i64 6, .int .i64 31] 3))
      have HT2 := Lib.hid (HT1.out.below HBa.out (Nat.le_refl _))
      have HWd2 := Lib.hid (HWd1.out.below HBa.out (Nat.le_refl _))
      have HZ2 := Lib.hid (HZ1.out.below HBa.out (Nat.le_refl _))
      have HB2 := Lib.hid (HB1.out.trans (HBa.out.mono HB1.out.size))
      clear HBa
      refine wpSpine_cons ?_
      show Code.wp Star.prog _ _ _ _
      go_wp2_with (go_at_call 19; (with_reducible refine (CN.out _).mono ?_); rintro e w3 ⟨B, rfl, hB, hs, hb3⟩; have HB3 := Lib.hid (HB2.out.trans (hb3.mono HB2.out.size)); have HT3 := Lib.hid (HT2.out.below hb3 (Nat.le_refl _)); have HWd3 := Lib.hid (HWd2.out.below hb3 (Nat.le_refl _)); have HZ3 := Lib.hid (HZ2.out.below hb3 (Nat.le_refl _)); have HS3 := Lib.hid hs; have hB3 := Nat.le_trans HB2.out.size hB; clear hb3 hs hB)
      refine wpSpine_cons ?_
      show Code.wp Star.prog _ _ _ _
      go_wp2_with fail
      refine wpSpine_cons ?_
      show Code.wp Star.prog _ _ _ _
      go_wp2_with fail
      show KEnv.Wk (lawEnv W) _ _ _ _
      have hsz : w.heap.size = W.heap.size := by rw [← hWT]; exact ice_size
      have hBW : W.heap.size ≤ B := by rw [← hsz]; exact hB3
      have hof : 0 ≠ B := by
        have := block_lt_of_cell (hO.offs 0 _ rfl)
        rw [ice_size] at this
        simp only at this
        omega
      have hR3 := rateN_mem n0
      have hS3 := sufN_mem n0
      have P3 : Hid (PF W w3 B (rateN n0) (sufN n0) (fun _ => 0) 0 false A xs C zs) := Lib.hid ⟨HS3.out, HT3.out, HWd3.out, HZ3.out⟩
      clear hw2 hz2 hO2 HB1 HT1 HWd1 HZ1 HT2 HWd2 HZ2 HB2 HB3 HT3 HWd3 HZ3 HS3 hWT CW CN hw hz
      generalize rateN n0 = R at *
      generalize sufN n0 = S at *
      refine KEnv.wk_seq (lawEnv_tight W) (KEnv.wk_then (lawEnv_tight W) fun T1 => ?_)
      show Code.wp Star.prog _ _ _ _
      have P4 := Lib.hid (P3.out.taped T1)
      generalize w3.taped T1 = w4 at *
      go_wp2_with fail
      show KEnv.Wk (lawEnv W) _ _ _ _
      refine KEnv.wk_block (lawEnv_tight W) (KEnv.wk_loop (lawEnv_tight W) (I4 W A c xs C cz zs R S B) (fun n a w5 hI => ?_) (n := zs.length) ⟨⟨rfl, rfl, rfl, rfl, rfl, rfl, rfl⟩, 0, 0, A, c, rfl, Nat.zero_le _, Nat.zero_le _, rfl, rfl, rfl, rfl, rfl, hlc, P4.out.wb, hA, P4.out⟩)
      obtain ⟨hS4, j, d, A2, c2, rfl, hj, hdx, q11, q12, q57, q58, q59, hc2, hw5, hA2, hP5⟩ := hI
      obtain ⟨u, rfl⟩ := lit_of hS4.size hS4.defers
      have t1 : u 1 = .slice A xs.length c := hS4.s1
      have t2 : u 2 = .slice C zs.length cz := hS4.s2
      have t7 : u 7 = .int .i64 (R : Nat) := hS4.s7
      have t8 : u 8 = .int .i64 (S : Nat) := hS4.s8
      have t9 : u 9 = .pointer (some ⟨B, 0, none⟩) := hS4.s9
      have t11 : u 11 = .slice A2 (xs.length - d) c2 := q11
      have t12 : u 12 = .int .i64 ((zs.take j).sum : Nat) := q12
      have t57 : u 57 = .slice C zs.length cz := q57
      have t58 : u 58 = .int .i64 (zs.length : Nat) := q58
      have t59 : u 59 = .int .i64 (j : Nat) := q59
      simp only [lit117, t1, t2, t7, t8, t9, t11, t12, t57, t58, t59]
      clear hS4 q11 q12 q57 q58 q59 t1 t2 t7 t8 t9 t11 t12 t57 t58 t59
      have P5 := Lib.hid hP5
      have HW5 := Lib.hid hw5
      clear hP5 hw5 P3 P4
      by_cases hjl : j < zs.length
      · refine KEnv.wk_then (lawEnv_tight W) fun T2 => ?_
        show Code.wp Star.prog _ _ _ _
        have P6 := Lib.hid (P5.out.taped T2)
        have HW6 : Hid (Words .u8 (w5.taped T2) A2 (xs.drop d)) := HW5
        generalize w5.taped T2 = w6 at *
        have hjl2 : decide ((j : Int) < (zs.length : Int)) = true := decide_eq_true (by omega)
        go_wp2_with fail
        show KEnv.Wk (lawEnv W) _ _ _ _
        refine KEnv.wk_then (lawEnv_tight W) fun T2 => ?_
        show Code.wp Star.prog _ _ _ _
        have P7 := Lib.hid (P6.out.taped T2)
        have HW7 : Hid (Words .u8 (w6.taped T2) A2 (xs.drop d)) := HW6
        clear P6 HW6
        generalize w6.taped T2 = w7 at *
        go_wp2_with fail
        show KEnv.Wk (lawEnv W) _ _ _ _
        refine KEnv.wk_seq (lawEnv_tight W) (KEnv.wk_block (lawEnv_tight W) (KEnv.wk_then (lawEnv_tight W) fun T2 => ?_))
        show Code.wp Star.prog _ _ _ _
        have P8 := Lib.hid (P7.out.taped T2)
        have HW8 : Hid (Words .u8 (w7.taped T2) A2 (xs.drop d)) := HW7
        clear P7 HW7
        generalize w7.taped T2 = w8 at *
        obtain ⟨zb, zo, rfl, hzcell⟩ := P8.out.wz j hjl
        have hzl : zs.getD j 0 < 256 := hzx.at hjl
        obtain ⟨z, hzd⟩ : ∃ z, z = zs.getD j 0 := ⟨_, rfl⟩
        rw [← hzd] at hzcell hzl
        have HZD := Lib.hid hzd
        clear hzd
        go_wp2_with fail
        show KEnv.Wk (lawEnv W) _ _ _ _
        refine KEnv.wk_then (lawEnv_tight W) fun T2 => ?_
        show Code.wp Star.prog _ _ _ _
        have P9 := Lib.hid (P8.out.taped T2)
        have HW9 : Hid (Words .u8 (w8.taped T2) A2 (xs.drop d)) := HW8
        clear P8 HW8 hzcell
        generalize w8.taped T2 = w9 at *
        obtain ⟨k, hk⟩ : ∃ k : Nat, (k : Int) = min (z : Int) ((xs.length - d : Nat) : Int) := ⟨(min (z : Int) ((xs.length - d : Nat) : Int)).toNat, by omega⟩
        go_wp2_with fail
        show KEnv.Wk (lawEnv W) _ _ _ _
        rw [← hk]
        have hk1 : k ≤ xs.length - d := by omega
        have hkz : k ≤ c2 := by omega
        have hk2 : (0 : Int) ≤ (k : Int) ∧ (k : Int) ≤ (c2 : Int) := by omega
        have HK := Lib.hid hk
        clear hk
        have HW10 := words_sliced HW9.out (by rw [List.length_drop]; omega) 0 k (Nat.zero_le _) (by rw [List.length_drop]; exact hk1)
        rw [Nat.sub_zero, List.drop_zero] at HW10
        refine KEnv.wk_seq (lawEnv_tight W) (KEnv.wk_region (lawEnv_tight W) ?_)
        show KEnv.Ops (lawEnv W) _ [0, 1, 2, 3, 4] _ _ _
        refine KEnv.ops_value (lawEnv_tight W) (v := .pointer (some ⟨B, 0, none⟩)) rfl rfl (fun T => rfl) ?_
        show KEnv.Ops (lawEnv W) _ [1, 2, 3, 4] _ (Go.Act.put _ (some 68) _) _
        refine KEnv.ops_value (lawEnv_tight W) (v := .slice A2 (xs.length - d) c2) rfl rfl (fun T => rfl) ?_
        show KEnv.Ops (lawEnv W) _ [2, 3, 4] _ (Go.Act.put _ (some 69) _) _
        refine KEnv.ops_value (lawEnv_tight W) (v := .int .i64 (k : Nat)) rfl rfl (fun T => rfl) ?_
        show KEnv.Ops (lawEnv W) _ [3, 4] _ (Go.Act.put _ (some 70) _) _
        refine KEnv.ops_value (lawEnv_tight W) (v := .slice (if c2 = 0 then A2 else A2.map (·.add (0 * 1))) k c2) rfl rfl (fun T => ?_) ?_
        · show (execOp _ _).run Star.prog _ = _
          simp only [Go.Act.put, List.setIfInBounds_toArray, List.set_cons_succ, List.set_cons_zero]
          go_simp
        show KEnv.Ops (lawEnv W) _ [4] _ (Go.Act.put _ (some 71) _) _
        have hpl : ((xs.drop d).take k).length = k := by rw [List.length_take, List.length_drop]; omega
        have hd12 : (xs.take d).length = d := by rw [List.length_take]; omega
        have hR0 : 0 < R := by omega
        have hpR : (wB R (fun _ => 0) 0 (xs.take d)).2 < R := by rw [wB_at R hR0 _ _ _ hR0]; exact Nat.mod_lt _ hR0
        have hfR := wB_lt R (xs.take d) (fun _ => 0) 0 (fun _ => by show 0 < _; omega) (hx.take _)
        refine KEnv.ops_hard (nB := 12) (nC := 110) (args := #[.tmp 68, .tmp 71]) rfl rfl rfl (by have h := fun a b => @hard_no a b; rw [Star.hard] at h; exact h _ _) (fun q hq => by have h := fun a b => @hard_spec a b; rw [Star.hard] at h; exact h _ _ q hq) ?_ callW calleW (Post := WPost w9 B R S (wB R (fun _ => 0) 0 (xs.take d)).1 (wB R (fun _ => 0) 0 (xs.take d)).2 false ((xs.drop d).take k)) (fun ρ fr rs w' vals' J hK hro hrd hv => ?_) (fun v w10 hp => KEnv.ops_nil (lawEnv_tight W) ?_)
        · intro x hx; simp at hx; rcases hx with rfl | rfl <;> trivial
        · exact write_act tight (by show lawB _ = true; kernel_rfl) P9.out.sp P9.out.ot HW10 ((hx.drop _).take _) (by rw [hpl]; exact hkz) (fun a h => by have := blk_if hA2 a h; omega) hfR (fun _ => hpR) (by omega) (fun h => by
            obtain ⟨_, _, _, h⟩ := isCells_get h
            have := (Array.getElem?_eq_some_iff.1 h).1
            omega) hof ρ fr rs w' vals' J hK hro hrd (by rw [map2] at hv; rw [hpl]; exact hv)
        · obtain ⟨hv, ht⟩ : v = .tuple #[.int .i64 (k : Nat), .int .i64 0] ∧ Turns B 29 (spC R S (wB R (fun _ => 0) 0 (xs.take (d + k))).1 (wB R (fun _ => 0) 0 (xs.take (d + k))).2 false) w9 w10 := by
            rcases hp with ⟨h, _⟩ | ⟨_, h1, h2⟩
            · cases h
            · rw [hpl] at h1 h2
              rw [wrP_wB k R _ _ _ hR0 hpR ((hx.drop _).take _) (by rw [hpl]; exact Nat.le_refl _), ← wB_append, ← List.take_add] at h2
              exact ⟨h1, h2⟩
          subst hv
          have P10 := Lib.hid (P9.out.turns ht hBW hA hC hof)
          have HW11 := Lib.hid (words_turns ht HW9.out (fun a e => by have := hA2 a e; omega))
          show KEnv.Wk (lawEnv W) _ _ (Go.Act.put _ (some 72) _) _
          clear hp ht P9 HW9 HW10 hpR hfR hd12 hpl
          refine KEnv.wk_then (lawEnv_tight W) fun T2 => ?_
          show Code.wp Star.prog _ _ _ _
          have P12 := Lib.hid (P10.out.taped T2)
          have HW12 : Hid (Words .u8 (w10.taped T2) A2 (xs.drop d)) := HW11
          clear P10 HW11
          generalize w10.taped T2 = w12 at *
          simp only [Go.Act.put, List.setIfInBounds_toArray, List.set_cons_succ, List.set_cons_zero]
          have hdk : d + k ≤ xs.length := by omega
          have hF : ∀ (c4 : Nat) (B4 : Option Addr), (c2 = k ∧ c4 = 0 ∧ B4 = A2) ∨ (c2 ≠ k ∧ c4 = c2 - k ∧ B4 = A2.map (·.add k)) → xs.length - (d + k) ≤ c4 ∧ Words .u8 w12 B4 (xs.drop (d + k)) ∧ ∀ a, B4 = some a → a.block < W.heap.size := fun c4 B4 h => by
            have hs := words_sliced HW12.out (by rw [List.length_drop]; omega) k (xs.length - d) hk1 (by rw [List.length_drop]; exact Nat.le_refl _)
            rw [List.drop_drop, List.take_of_length_le (by rw [List.length_drop]; omega), Nat.mul_one] at hs
            rcases h with ⟨h1, rfl, rfl⟩ | ⟨h1, rfl, rfl⟩
            · rw [if_pos h1] at hs
              exact ⟨by omega, hs, hA2⟩
            · rw [if_neg h1] at hs
              refine ⟨by omega, hs, fun a e => blk_if (c := False) hA2 a (by rw [if_neg not_false]; exact e)⟩
          have HF := Lib.hid hF
          have hsum := sum_take_le hzx j
          have hws : IntKind.i64.wrap (((zs.take j).sum : Nat) + (z : Int)) = ((zs.take j).sum : Nat) + (z : Int) := by rw [IntKind.wrap_i64]; omega
          have hwj : IntKind.i64.wrap ((j : Int) + 1) = (j : Int) + 1 := by rw [IntKind.wrap_i64]; omega
          have HSM : Hid ((zs.take (j + 1)).sum = (zs.take j).sum + z) := Lib.hid (by rw [HZD.out]; exact sum_take_succ hjl)
          generalize (zs.take j).sum = sm at *
          clear hF HW12
          go_wp2_with fail
          all_goals
            show KEnv.Wk (lawEnv W) _ _ _ _
            refine KEnv.wk_endk (lawEnv_tight W) (fun a w h => h) fun T3 => ?_
            show Code.wp Star.prog _ _ _ _
            go_wp2_with fail
            show KEnv.Wk (lawEnv W) _ _ _ _
            refine KEnv.wk_end (lawEnv_tight W) .normal (M := I4 W A c xs (some ⟨zb, zo, none⟩) cz zs R S B (zs.length - (j + 1))) (fun a w T h => h.taped T) (fun a w h => ⟨_, by omega, h⟩) fun T4 => ?_
            show Code.wp Star.prog _ _ _ _
            go_wp2_with fail
            first
              | (obtain ⟨g1, g2, g3⟩ := HF.out 0 A2 (.inl ⟨‹c2 = k›, rfl, rfl⟩)
                 exact ⟨⟨rfl, rfl, rfl, rfl, rfl, rfl, rfl⟩, j + 1, d + k, A2, 0, rfl, hjl, hdk, by rw [← Nat.sub_sub]; rfl, by rw [HSM.out, Int.natCast_add]; rfl, rfl, rfl, by rw [Int.natCast_add]; rfl, g1, g2, g3, (P12.out.taped _).taped _⟩)
              | (obtain ⟨g1, g2, g3⟩ := HF.out (c2 - k) (A2.map (·.add k)) (.inr ⟨‹¬ c2 = k›, rfl, rfl⟩)
                 exact ⟨⟨rfl, rfl, rfl, rfl, rfl, rfl, rfl⟩, j + 1, d + k, A2.map (·.add k), c2 - k, rfl, hjl, hdk, by rw [← Nat.sub_sub]; rfl, by rw [HSM.out, Int.natCast_add]; rfl, rfl, rfl, by rw [Int.natCast_add]; rfl, g1, g2, g3, (P12.out.taped _).taped _⟩)
      · obtain rfl : j = zs.length := by omega
        have hjl2 : decide ((zs.length : Int) < (zs.length : Int)) = false := decide_eq_false (by omega)
        rw [List.take_length]
        refine KEnv.wk_exitk (lawEnv_tight W) (id := 0) (fun a w h => h) fun T2 => ?_
        show Code.wp Star.prog _ _ _ _
        have P6 := Lib.hid (P5.out.taped T2)
        have HW6 : Hid (Words .u8 (w5.taped T2) A2 (xs.drop d)) := HW5
        clear P5 HW5
        generalize w5.taped T2 = w6 at *
        go_wp2_with fail
        show KEnv.Wk (lawEnv W) _ _ _ _
        have hd12 : (xs.take d).length = d := by rw [List.length_take]; omega
        have hpl : (xs.drop d).length = xs.length - d := List.length_drop
        have hR0 : 0 < R := by omega
        have hpR : (wB R (fun _ => 0) 0 (xs.take d)).2 < R := by rw [wB_at R hR0 _ _ _ hR0]; exact Nat.mod_lt _ hR0
        have hfR := wB_lt R (xs.take d) (fun _ => 0) 0 (fun _ => by show 0 < _; omega) (hx.take _)
        refine KEnv.wk_seq (lawEnv_tight W) (KEnv.wk_region (lawEnv_tight W) ?_)
        show KEnv.Ops (lawEnv W) _ [0, 1, 2] _ _ _
        refine KEnv.ops_value (lawEnv_tight W) (v := .pointer (some ⟨B, 0, none⟩)) rfl rfl (fun T => rfl) ?_
        show KEnv.Ops (lawEnv W) _ [1, 2] _ (Go.Act.put _ (some 81) _) _
        refine KEnv.ops_value (lawEnv_tight W) (v := .slice A2 (xs.length - d) c2) rfl rfl (fun T => rfl) ?_
        show KEnv.Ops (lawEnv W) _ [2] _ (Go.Act.put _ (some 82) _) _
        refine KEnv.ops_hard (nB := 12) (nC := 110) (args := #[.tmp 81, .tmp 82]) rfl rfl rfl (by have h := fun a b => @hard_no a b; rw [Star.hard] at h; exact h _ _) (fun q hq => by have h := fun a b => @hard_spec a b; rw [Star.hard] at h; exact h _ _ q hq) ?_ callW calleW (Post := WPost w6 B R S (wB R (fun _ => 0) 0 (xs.take d)).1 (wB R (fun _ => 0) 0 (xs.take d)).2 false (xs.drop d)) (fun ρ fr rs w' vals' J hK hro hrd hv => ?_) (fun v w10 hp => KEnv.ops_nil (lawEnv_tight W) ?_)
        · intro x hx; simp at hx; rcases hx with rfl | rfl <;> trivial
        · exact write_act tight (by show lawB _ = true; kernel_rfl) P6.out.sp P6.out.ot HW6.out (hx.drop _) (by rw [hpl]; exact hc2) (fun a h => by have := hA2 a h; omega) hfR (fun _ => hpR) (by omega) (fun h => by
            obtain ⟨_, _, _, h⟩ := isCells_get h
            have := (Array.getElem?_eq_some_iff.1 h).1
            omega) hof ρ fr rs w' vals' J hK hro hrd (by rw [map2] at hv; rw [hpl]; exact hv)
        · obtain ⟨hv, ht⟩ : v = .tuple #[.int .i64 ((xs.length - d : Nat) : Int), .int .i64 0] ∧ Turns B 29 (spC R S (wB R (fun _ => 0) 0 xs).1 (wB R (fun _ => 0) 0 xs).2 false) w6 w10 := by
            rcases hp with ⟨h, _⟩ | ⟨_, h1, h2⟩
            · cases h
            · rw [hpl] at h1 h2
              rw [wrP_wB _ R _ _ _ hR0 hpR (hx.drop _) (by rw [hpl]; exact Nat.le_refl _), ← wB_append, List.take_append_drop] at h2
              exact ⟨h1, h2⟩
          subst hv
          have P10 := Lib.hid (P6.out.turns ht hBW hA hC hof)
          show KEnv.Wk (lawEnv W) _ _ (Go.Act.put _ (some 83) _) _
          clear hp ht P6 HW6 hpR hfR hd12 hpl
          refine KEnv.wk_wp (lawEnv_tight W) (fun _ _ _ _ h => h) fun T2 => ?_
          show Code.wp Star.prog _ _ _ _
          have P12 := Lib.hid (P10.out.taped T2)
          clear P10
          generalize w10.taped T2 = w12 at *
          simp only [Go.Act.put, List.setIfInBounds_toArray, List.set_cons_succ, List.set_cons_zero]
          have hR0 : 0 < R := by omega
          have hfR := wB_lt R xs (fun _ => 0) 0 (fun _ => by show 0 < _; omega) hx
          have hpR : (wB R (fun _ => 0) 0 xs).2 < R := by rw [wB_at R hR0 _ _ _ hR0]; exact Nat.mod_lt _ hR0
          obtain ⟨i0, hi0, hz0, hz1, hz2⟩ := info_parts u8_info2
          have hns : zs.sum ≤ 255 * zs.length := by have := sum_take_le hzx zs.length; rwa [List.take_length] at this
          have hBl : B < w12.heap.size := P12.out.sp.lt
          have CWh : Hid (∀ V, Words .u8 V A xs → Calls Star.prog 20 #[.int .i64 (R : Nat), .int .i64 (S : Nat), .slice A xs.length c, .int .i64 (zs.sum : Nat)] V fun e w' => ∃ A' c', e = .returned (.slice A' zs.sum c') ∧ Words .u8 w' A' (sqB R zs.sum (turned R S (wB R (fun _ => 0) 0 xs).1 (wB R (fun _ => 0) 0 xs).2) 0) ∧ Below V.heap.size V w') := Lib.hid fun V h => whole_any R S hR0 (by omega) (by omega) A c xs hx hl zs.sum (by omega) V h
          generalize (wB R (fun _ => 0) 0 xs).1 = f at *
          generalize (wB R (fun _ => 0) 0 xs).2 = p at *
          have CRd : Hid (∀ (m z : Nat), z < 256 → ∀ V, Sp V B R S (stF R S f p m) (stP R p m) (decide (0 < m)) → OTab V → Calls Star.prog 14 #[.pointer (some ⟨B, 0, none⟩), .int .i64 (z : Nat)] V fun e w' => ∃ A3 c3 ys, e = .returned (.tuple #[.slice A3 z c3, .int .i64 0]) ∧ ys.length = z ∧ Words .u8 w' A3 ys ∧ sqB R m (turned R S f p) 0 ++ ys = sqB R (m + z) (turned R S f p) 0 ∧
            Turns B 29 (spC R S (stF R S f p (m + z)) (stP R p (m + z)) (decide (0 < m + z))) V w') := Lib.hid fun m z hz V h1 h2 => read_st R S f hfR p hR0 (by omega) (by omega) (by omega) m z hz B V h1 h2 hof
          have HT12 : Hid (Turns B 29 (spC R S (stF R S f p 0) (stP R p 0) (decide (0 < 0))) w12 w12) := Lib.hid (Turns.refl P12.out.sp)
          have HR12 : Hid (Row .u8 5 w12.heap.size w12 (.slice none 0 0) (sqB R 0 (turned R S f p) 0)) := Lib.hid (Row.nil _ _ _ _)
          generalize turned R S f p = TF at *
          have HOF := Lib.hid hof
          have hzsl : zs.length ≤ 12 := hl2
          clear hof
          go_wp2_with fail
          go_loopg [16, 86] zs.length (fun g bv iv wr => ∃ j, j + g = zs.length ∧ iv = .int .i64 (j : Nat) ∧ Hid (Row .u8 5 w12.heap.size wr bv (sqB R (zs.take j).sum TF 0)) ∧ Hid (Turns B 29 (spC R S (stF R S f p (zs.take j).sum) (stP R p (zs.take j).sum) (decide (0 < (zs.take j).sum))) w12 wr))
          case atStart => exact ⟨0, by omega, rfl, HR12, HT12⟩
          case round =>
            obtain ⟨j, hj, rfl, HRj, HTj⟩ := hrel
            obtain ⟨A9, c9, rfl, hw9⟩ := HRj.out.words
            by_cases hjl : j < zs.length
            · obtain ⟨g', rfl⟩ : ∃ g', gk = g' + 1 := ⟨gk - 1, by omega⟩
              have hjl2 : (j : Int) < (zs.length : Int) := by omega
              have hwj : IntKind.i64.wrap ((j : Int) + 1) = (j : Int) + 1 := by rw [IntKind.wrap_i64]; omega
              have hsp := HTj.out.row
              have hot := P12.out.ot.turns HTj.out HOF.out
              have hwz := words_turns HTj.out P12.out.wz (fun a e => by have := hC a e; omega)
              obtain ⟨zb, zo, rfl, hzcell⟩ := hwz j hjl
              have hzl : zs.getD j 0 < 256 := hzx.at hjl
              have HSM := Lib.hid (sum_take_succ hjl)
              have hsm := sum_take_le hzx j
              generalize zs.getD j 0 = z at *
              generalize (zs.take j).sum = sm at *
              have CR := Lib.hid (CRd.out sm z hzl wr hsp hot)
              rw [sqB_length] at HRj ⊢
              clear hsp hot hwz hw9 CRd CWh HT12 HR12
              go_wp2_with (first
                | (go_at_call 14; (with_reducible refine CR.out.mono ?_); rintro e w2 ⟨A3, c3, ys, rfl, hyl, hw3, hcat, ht3⟩; have HT3 := Lib.hid (HTj.out.trans ht3); have HR3 := Lib.hid (row_turns ht3 HRj.out hBl); have HW3 := Lib.hid hw3; have hsz3 := HT3.out.size; have HCAT := Lib.hid hcat; have HYL := Lib.hid hyl; clear hw3 hcat ht3 hyl)
                | (at_builtin; refine append_anyB rfl _ _ 36 rfl w12.heap.size 5 i0 Star.underlying36 hi0 hz0 hz1 hz2 _ (sqB R sm TF 0) rfl HR3.out A3 c3 ys (by rw [HYL.out]; rfl) HW3.out (by rw [HYL.out, sqB_length]; omega) hsz3 ?_; intro v4 w4 h4 hg4; have HT4 := Lib.hid (HT3.out.belowA hBl (Row.grown0 HR3.out (Below.refl _ _) hsz3 hg4)); rw [HCAT.out] at h4; have HR4 := Lib.hid h4; clear h4 hg4))
              go_roundg g'
              case measure => omega
              case rel => exact ⟨j + 1, by omega, by rw [Int.natCast_add]; rfl, by rw [HSM.out]; exact HR4, by rw [HSM.out]; exact HT4⟩
            · obtain rfl : j = zs.length := by omega
              rw [List.take_length] at HRj HTj hw9 ⊢
              rw [sqB_length] at HRj ⊢
              have HWx := Lib.hid (words_turns HTj.out P12.out.wb (fun a e => by have := hA a e; omega))
              have HW9 := Lib.hid hw9
              have hjl2 : ¬ ((zs.length : Int) < (zs.length : Int)) := by omega
              have HSA : Hid (∀ V A c B d, Words .u8 V A (sqB R zs.sum TF 0) → Words .u8 V B (sqB R zs.sum TF 0) → Calls Star.prog 16 #[.slice A zs.sum c, .slice B zs.sum d] V fun e w' => e = .returned (.bool true) ∧ Below V.heap.size V w') := Lib.hid fun V A c B d h1 h2 => same_told (sqB_length _ _ _ _) (sqB_lt _ _ _ _) (by omega) V A c B d h1 h2
              generalize sqB R zs.sum TF 0 = ys at *
              clear hw9 HRj HTj CRd HT12 HR12
              go_wp2_with (first
                | (go_at_call 20; (with_reducible refine (CWh.out _ HWx.out).mono ?_); rintro e w2 ⟨A4, c4, rfl, hw4, hb4⟩; have HW4 := Lib.hid hw4; have HW5 := Lib.hid (HW9.out.below hb4 (Nat.le_refl _)); clear hw4 hb4)
                | (go_at_call 16; (with_reducible refine (HSA.out _ _ _ _ _ HW5.out HW4.out).mono ?_); rintro e w3' ⟨rfl, hb5⟩))
              exact ⟨.inr rfl, rfl, rfl⟩
    · have hd2 : decide ((12 : Int) < (zs.length : Int)) = true := decide_eq_true (by omega)
      refine KEnv.wk_wp (lawEnv_tight W) (fun _ _ _ _ h => h) fun T => ?_
      have hO2 := otab_taped hO T
      show Code.wp Star.prog _ _ _ _
      generalize (ice W).taped T = w at *
      clear hw hz hO hx
      go_wp2_with (go_at_call 7; (with_reducible refine (CW.out _ hO2).mono ?_); rintro e w1 ⟨rfl, hb1⟩)
      exact ⟨.inr rfl, rfl, rfl⟩
  · have hd : decide ((400 : Int) < (xs.length : Int)) = true := decide_eq_true (by omega)
    refine KEnv.wk_wp (lawEnv_tight W) (fun _ _ _ _ h => h) fun T => ?_
    have hO2 := otab_taped hO T
    show Code.wp Star.prog _ _ _ _
    generalize (ice W).taped T = w at *
    clear hw hz hO hx
    go_wp2_with (go_at_call 7; (with_reducible refine (CW.out _ hO2).mono ?_); rintro e w1 ⟨rfl, hb1⟩)
    exact ⟨.inr rfl, rfl, rfl⟩
end Go.Proofs.YtopelmhpahohfaaDoor.Co
