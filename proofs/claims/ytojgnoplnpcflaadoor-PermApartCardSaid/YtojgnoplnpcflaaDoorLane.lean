/- Layer 12: the document's own answers over lanes: constants, offsets, the move. -/
import Derived.Test.YtojgnoplnpcflaaDoorRefstep
import Derived.Test.YtojgnoplnpcflaaDoorKtab
import Derived.Deep.LoopGhost
namespace Go.Proofs.YtojgnoplnpcflaaDoor.L64
open Go.RowKit
set_option linter.unusedVariables false
set_option linter.unusedSimpArgs false
/-! ### Rows of lanes -/
theorem load25u (x : Value) : Instr.loadAt 24 x = loadRow 24 x := rfl
theorem store25u (x y : Value) : Instr.storeAt 24 x y = storeRow 24 x y := rfl
theorem run_load25u {w : World} {n : Nat} (hg : RowOk w n 25) : (loadRow 24 (.pointer (some ⟨n, 0, none⟩))).run Tryd.prog w = .ok (.agg (rowAt w n)) w :=
  loadAt_row hg Tryd.underlying24 rfl (by kernel_rfl)
theorem run_store25u {w : World} {n : Nat} {c' : Array Value} (hg : RowOk w n 25) (hs' : c'.size = 25) (h1 : OneCells c') :
    (storeRow 24 (.pointer (some ⟨n, 0, none⟩)) (.agg c')).run Tryd.prog w = .ok () (w.setRow n c') := storeAt_row hg (by kernel_rfl) hs' h1
theorem zero25u (w : World) : (zeroValue 24).run Tryd.prog w = .ok (.agg (uTab 25 fun _ => 0)) w := by kernel_rfl
attribute [go_sem ↓] load25u store25u zero25u
attribute [go_sem] run_load25u run_store25u
theorem load25i (x : Value) : Instr.loadAt 38 x = loadRow 38 x := rfl
theorem store25i (x y : Value) : Instr.storeAt 38 x y = storeRow 38 x y := rfl
theorem run_load25i {w : World} {n : Nat} (hg : RowOk w n 25) : (loadRow 38 (.pointer (some ⟨n, 0, none⟩))).run Tryd.prog w = .ok (.agg (rowAt w n)) w :=
  loadAt_row hg Tryd.underlying38 rfl (by kernel_rfl)
theorem run_store25i {w : World} {n : Nat} {c' : Array Value} (hg : RowOk w n 25) (hs' : c'.size = 25) (h1 : OneCells c') :
    (storeRow 38 (.pointer (some ⟨n, 0, none⟩)) (.agg c')).run Tryd.prog w = .ok () (w.setRow n c') := storeAt_row hg (by kernel_rfl) hs' h1
theorem zero25i (w : World) : (zeroValue 38).run Tryd.prog w = .ok (.agg (arr 25 fun _ => 0)) w := by kernel_rfl
attribute [go_sem ↓] load25i store25i zero25i
attribute [go_sem] run_load25i run_store25i
theorem load5u (x : Value) : Instr.loadAt 41 x = loadRow 41 x := rfl
theorem store5u (x y : Value) : Instr.storeAt 41 x y = storeRow 41 x y := rfl
theorem run_load5u {w : World} {n : Nat} (hg : RowOk w n 5) : (loadRow 41 (.pointer (some ⟨n, 0, none⟩))).run Tryd.prog w = .ok (.agg (rowAt w n)) w :=
  loadAt_row hg Tryd.underlying41 rfl (by kernel_rfl)
theorem run_store5u {w : World} {n : Nat} {c' : Array Value} (hg : RowOk w n 5) (hs' : c'.size = 5) (h1 : OneCells c') :
    (storeRow 41 (.pointer (some ⟨n, 0, none⟩)) (.agg c')).run Tryd.prog w = .ok () (w.setRow n c') := storeAt_row hg (by kernel_rfl) hs' h1
theorem zero5u (w : World) : (zeroValue 41).run Tryd.prog w = .ok (.agg (uTab 5 fun _ => 0)) w := by kernel_rfl
attribute [go_sem ↓] load5u store5u zero5u
attribute [go_sem] run_load5u run_store5u
/-! ### The move -/
def piN (f : Nat → Nat) (i : Nat) : Nat := f ((i % 5 + 3 * (i / 5)) % 5 + 5 * (i % 5))
def piUp (f : Nat → Nat) (x y i : Nat) : Nat := if i % 5 < x ∨ (i % 5 = x ∧ i / 5 < y) then piN f i else 0
theorem piUp_zero (f : Nat → Nat) : uTab 25 (piUp f 0 0) = uTab 25 fun _ => 0 := uTab_congr fun i hi => if_neg (by omega)
theorem piUp_full (f : Nat → Nat) : uTab 25 (piUp f 5 0) = uTab 25 (piN f) := uTab_congr fun i hi => if_pos (by omega)
theorem piUp_next (f : Nat → Nat) (x : Nat) : uTab 25 (piUp f x 5) = uTab 25 (piUp f (x + 1) 0) := uTab_congr fun i hi => by
  unfold piUp
  by_cases h : i % 5 < x ∨ (i % 5 = x ∧ i / 5 < 5)
  · rw [if_pos h, if_pos (by omega)]
  · rw [if_neg h, if_neg (by omega)]
theorem piUp_step (f : Nat → Nat) (x y : Nat) (hx : x < 5) (hy : y < 5) : (uTab 25 (piUp f x y)).setIfInBounds (placeN x y) (.int .u64 (f (placeN ((x + 3 * y) % 5) x) : Nat)) = uTab 25 (piUp f x (y + 1)) :=
  tab_set 25 _ _ _ _ (by
    unfold piUp placeN
    rw [if_pos (by omega)]
    unfold piN
    rw [show ((x % 5 + 5 * (y % 5)) % 5 + 3 * ((x % 5 + 5 * (y % 5)) / 5)) % 5 + 5 * ((x % 5 + 5 * (y % 5)) % 5) = (x + 3 * y) % 5 % 5 + 5 * (x % 5) by omega]) fun i hi hn => by
      unfold placeN at hn
      show Value.int .u64 ((piUp f x (y + 1) i : Nat) : Int) = Value.int .u64 ((piUp f x y i : Nat) : Int)
      unfold piUp
      by_cases h : i % 5 < x ∨ (i % 5 = x ∧ i / 5 < y)
      · rw [if_pos h, if_pos (by omega)]
      · rw [if_neg h, if_neg (by omega)]
set_option maxRecDepth 100000 in
set_option maxHeartbeats 1000000 in
theorem refPi_any (f : Nat → Nat) (w : World) : Calls Tryd.prog 11 #[.agg (uTab 25 f)] w fun e w' => e = .returned (.agg (uTab 25 (piN f))) ∧ Below w.heap.size w w' := by
  go_enter Tryd.func11, Tryd.ntmps11
  go_wp2
  go_loopg [4, 5] 5 (fun g xv yv wr => ∃ x : Nat, x + g = 5 ∧ xv = .int .i64 (x : Nat) ∧ wr = ((w.alloc (.cells (uTab 25 f) 24)).alloc (.cells (uTab 25 fun _ => 0) 24)).alloc (.cells (uTab 25 (piUp f x 0)) 24))
  case atStart => exact ⟨0, by omega, rfl, by rw [piUp_zero]⟩
  case round =>
    obtain ⟨x, hx, rfl, rfl⟩ := hrel
    by_cases hx5 : x < 5
    · obtain ⟨g, rfl⟩ : ∃ g, gk = g + 1 := ⟨gk - 1, by omega⟩
      go_wp2
      rw [show decide ((x : Int) < 5) = true from decide_eq_true (by omega)]
      go_loopg [5] 5 (fun g yv wr => ∃ y : Nat, y + g = 5 ∧ yv = .int .i64 (y : Nat) ∧ wr = ((w.alloc (.cells (uTab 25 f) 24)).alloc (.cells (uTab 25 fun _ => 0) 24)).alloc (.cells (uTab 25 (piUp f x y)) 24))
      case atStart => exact ⟨0, by omega, rfl, rfl⟩
      case round =>
        obtain ⟨y, hy, rfl, rfl⟩ := hrel
        by_cases hy5 : y < 5
        · obtain ⟨g2, rfl⟩ : ∃ g2, gk = g2 + 1 := ⟨gk - 1, by omega⟩
          obtain ⟨t, ht⟩ : ∃ t, t = (x + 3 * y) % 5 := ⟨_, rfl⟩
          have ht2 : ((x : Int) + 3 * (y : Int)) % 5 = (t : Int) := by omega
          have HS := Lib.hid (piUp_step f x y hx5 hy5)
          rw [← ht] at HS
          have HP := Lib.hid (fun W => place_any x y (by omega) (by omega) W)
          have HQ := Lib.hid (fun W => place_any t x (by omega) (by omega) W)
          have p1 := placeN_lt x y
          have p2 := placeN_lt t x
          clear ht
          have hc2 : (uTab 25 f)[placeN t x]? = some (.int .u64 _) := uTab_at 25 f (placeN t x) p2
          have hc1 : (uTab 25 (piUp f x y))[placeN x y]? = some (.int .u64 _) := uTab_at 25 (piUp f x y) (placeN x y) p1
          generalize placeN x y = p at *
          generalize placeN t x = q at *
          go_wp2_with fail
          refine (HP.out _).mono ?_
          rintro e w5 ⟨rfl, rfl⟩
          go_wp2_with fail
          refine (HQ.out _).mono ?_
          rintro e w6 ⟨rfl, rfl⟩
          go_wp2
          go_roundg g2
          case measure => omega
          case rel => exact ⟨y + 1, by omega, by go_num, by rw [HS.out]⟩
        · obtain rfl : y = 5 := by omega
          rw [piUp_next]
          go_wp2
          go_roundg g
          case measure => omega
          case rel => exact ⟨x + 1, by omega, by go_num, rfl⟩
    · obtain rfl : x = 5 := by omega
      rw [piUp_full]
      go_wp2
      refine row_ret (P := Tryd.prog) (n := w.heap.size + 1) (p := 2) (k := 25) (c := uTab 25 (piN f)) rfl rfl (by simp [go_sem]) (by simp [go_sem]) Tryd.underlying24 rfl (by kernel_rfl) rfl ⟨rfl, (((Below.refl _ w).alloc (Nat.le_refl _) _).alloc (by simp) _).alloc (by simp; omega) _⟩
/-! ### The offsets -/
def offX : Nat → Nat × Nat
  | 0 => (1, 0)
  | t + 1 => ((offX t).2, (2 * (offX t).1 + 3 * (offX t).2) % 5)
theorem offX_lt : ∀ t, (offX t).1 < 5 ∧ (offX t).2 < 5
  | 0 => by decide
  | t + 1 => ⟨(offX_lt t).2, by show (2 * (offX t).1 + 3 * (offX t).2) % 5 < 5; omega⟩
def offUp : Nat → Nat → Int
  | 0, _ => 0
  | t + 1, i => if i = placeN (offX t).1 (offX t).2 then (((t + 1) * (t + 2) / 2 % 64 : Nat) : Int) else offUp t i
def offL : List Nat := [0, 1, 62, 28, 27, 36, 44, 6, 55, 20, 3, 10, 43, 25, 39, 41, 45, 15, 21, 8, 18, 2, 61, 56, 14]
def offN (i : Nat) : Nat := offL.getD i 0
theorem offN_lt (i : Nat) : offN i < 64 := by
  rcases Nat.lt_or_ge i 25 with h | h
  · exact (by decide : ∀ i, i < 25 → offN i < 64) i h
  · unfold offN; rw [List.getD_eq_getElem?_getD, List.getElem?_eq_none h]; decide
theorem offUp_full : arr 25 (offUp 24) = arr 25 fun i => (offN i : Nat) := arr_congr fun i hi => (by decide +kernel : ∀ i, i < 25 → offUp 24 i = (offN i : Nat)) i hi
theorem offUp_step (t : Nat) : (arr 25 (offUp t)).setIfInBounds (placeN (offX t).1 (offX t).2) (.int .i64 (((t + 1) * (t + 2) / 2 % 64 : Nat) : Int)) = arr 25 (offUp (t + 1)) :=
  arr_set 25 _ _ _ _ (if_pos rfl) fun i _ hn => if_neg hn
set_option maxRecDepth 100000 in
set_option maxHeartbeats 1000000 in
theorem refOffsets_any (w : World) : Calls Tryd.prog 26 #[] w fun e w' => e = .returned (.agg (arr 25 fun i => (offN i : Nat))) ∧ Below w.heap.size w w' := by
  go_enter Tryd.func26, Tryd.ntmps26
  go_wp2
  go_loopg [2, 3, 4] 24 (fun g xv yv tv wr => ∃ t : Nat, t + g = 24 ∧ tv = .int .i64 (t : Nat) ∧ xv = .int .i64 ((offX t).1 : Nat) ∧ yv = .int .i64 ((offX t).2 : Nat) ∧ wr = (w.alloc (.cells (arr 25 fun _ => 0) 38)).alloc (.cells (arr 25 (offUp t)) 38))
  case atStart => exact ⟨0, by omega, rfl, rfl, rfl, rfl⟩
  case round =>
    obtain ⟨t, ht, rfl, rfl, rfl, rfl⟩ := hrel
    by_cases h24 : t < 24
    · obtain ⟨g, rfl⟩ : ∃ g, gk = g + 1 := ⟨gk - 1, by omega⟩
      have HS := Lib.hid (offUp_step t)
      have hl := offX_lt t
      have HX : Hid ((offX (t + 1)).1 = (offX t).2) := rfl
      have HY : Hid ((offX (t + 1)).2 = (2 * (offX t).1 + 3 * (offX t).2) % 5) := rfl
      have HP := Lib.hid (fun W => place_any (offX t).1 (offX t).2 (by omega) (by omega) W)
      have p1 := placeN_lt (offX t).1 (offX t).2
      have hc1 : (arr 25 (offUp t))[placeN (offX t).1 (offX t).2]? = some (.int .i64 _) := arr_at 25 (offUp t) _ p1
      generalize placeN (offX t).1 (offX t).2 = p at *
      generalize (offX t).1 = x at *
      generalize (offX t).2 = y at *
      obtain ⟨hx, hy⟩ := hl
      obtain ⟨m, hm⟩ : ∃ m, m = (t + 1) * (t + 2) := ⟨_, rfl⟩
      have hmi : ((t : Int) + 1) * ((t : Int) + 2) = (m : Int) := by rw [hm]; simp
      have hmb : m ≤ 24 * 25 := by rw [hm]; exact Nat.mul_le_mul (by omega) (by omega)
      rw [← hm] at HS
      clear hm
      go_wp2_with fail
      refine (HP.out _).mono ?_
      rintro e w5 ⟨rfl, rfl⟩
      go_wp2
      go_roundg g
      case measure => omega
      case rel => exact ⟨t + 1, by omega, by go_num, by rw [HX.out], by rw [HY.out]; go_num, by rw [← HS.out]; go_num⟩
    · obtain rfl : t = 24 := by omega
      rw [offUp_full]
      go_wp2
      refine row_ret (P := Tryd.prog) (n := w.heap.size) (p := 0) (k := 25) (c := arr 25 fun i => (offN i : Nat)) rfl rfl (by simp [go_sem]) (by simp [go_sem]) Tryd.underlying38 rfl (by kernel_rfl) rfl ⟨rfl, (((Below.refl _ w).alloc (Nat.le_refl _) _).alloc (by simp) _)⟩
/-! ### The constants -/
def cUp (r : Nat) : Nat → Nat → Int
  | 0, _ => 0
  | k + 1, i => if i = 2 ^ k - 1 then (rcN (k + 7 * r) : Nat) else cUp r k i
def constL : List Nat := [0x0000000000000001, 0x0000000000008082, 0x800000000000808A, 0x8000000080008000, 0x000000000000808B, 0x0000000080000001, 0x8000000080008081, 0x8000000000008009,
  0x000000000000008A, 0x0000000000000088, 0x0000000080008009, 0x000000008000000A, 0x000000008000808B, 0x800000000000008B, 0x8000000000008089, 0x8000000000008003,
  0x8000000000008002, 0x8000000000000080, 0x000000000000800A, 0x800000008000000A, 0x8000000080008081, 0x8000000000008080, 0x0000000080000001, 0x8000000080008008]
def constN (r : Nat) : Nat := constL.getD r 0
theorem constN_lt (r : Nat) : constN r < 18446744073709551616 := by
  rcases Nat.lt_or_ge r 24 with h | h
  · exact (by decide +kernel : ∀ r, r < 24 → constN r < 18446744073709551616) r h
  · unfold constN; rw [List.getD_eq_getElem?_getD, List.getElem?_eq_none h]; decide
theorem cUp_full (r : Nat) (hr : r < 24) (i : Nat) (hi : i < 64) : cUp r 7 i = bitI (constN r) i := (by decide +kernel : ∀ r, r < 24 → ∀ i, i < 64 → cUp r 7 i = bitI (constN r) i) r hr i hi
theorem cUp_step (r k : Nat) : (arr 64 (cUp r k)).setIfInBounds (2 ^ k - 1) (.int .i64 (rcN (k + 7 * r) : Nat)) = arr 64 (cUp r (k + 1)) :=
  arr_set 64 _ _ _ _ (if_pos rfl) fun i _ hn => if_neg hn
/-- The constant, bit for bit as the program lays it. -/
def cP (r : Nat) : Nat → Nat
  | 0 => 0
  | k + 1 => cP r k ||| (rcS (7 * r + k) % 2) * 2 ^ (2 ^ k - 1)
theorem cP_full (r : Nat) (hr : r < 24) : cP r 7 = constN r := (by decide +kernel : ∀ r, r < 24 → cP r 7 = constN r) r hr
theorem cP_lt (r : Nat) : ∀ k, k ≤ 7 → cP r k < 18446744073709551616
  | 0, _ => by show (0 : Nat) < _; decide
  | k + 1, h => by
    have ih := cP_lt r k (by omega)
    have h2 : rcS (7 * r + k) % 2 < 2 := Nat.mod_lt _ (by omega)
    have h3 : (2 : Nat) ^ k ≤ 2 ^ 6 := Nat.pow_le_pow_right (by omega) (by omega)
    have h4 : (2 : Nat) ^ (2 ^ k - 1) ≤ 2 ^ 63 := Nat.pow_le_pow_right (by omega) (by omega)
    have h5 : rcS (7 * r + k) % 2 * 2 ^ (2 ^ k - 1) ≤ 1 * 2 ^ 63 := Nat.mul_le_mul (by omega) h4
    exact or64 ih (by omega)
end Go.Proofs.YtojgnoplnpcflaaDoor.L64
