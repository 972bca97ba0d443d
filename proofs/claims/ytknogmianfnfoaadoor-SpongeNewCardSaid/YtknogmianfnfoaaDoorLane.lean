/- Layer 12: the document's own answers over lanes: constants, offsets, the move. -/
import Derived.Test.YtknogmianfnfoaaDoorRefstep
import Derived.Test.YtknogmianfnfoaaDoorLrow
import Derived.Deep.LoopGhost
namespace Go.Proofs.YtknogmianfnfoaaDoor.L64
open Go.RowKit
set_option linter.unusedVariables false
set_option linter.unusedSimpArgs false
theorem load5u (x : Value) : Instr.loadAt 86 x = loadRow 86 x := rfl
theorem store5u (x y : Value) : Instr.storeAt 86 x y = storeRow 86 x y := rfl
theorem run_load5u {w : World} {n : Nat} (hg : RowOk w n 5) : (loadRow 86 (.pointer (some ⟨n, 0, none⟩))).run Tryd.prog w = .ok (.agg (rowAt w n)) w :=
  loadAt_row hg Tryd.underlying86 rfl (by kernel_rfl)
theorem run_store5u {w : World} {n : Nat} {c' : Array Value} (hg : RowOk w n 5) (hs' : c'.size = 5) (h1 : OneCells c') :
    (storeRow 86 (.pointer (some ⟨n, 0, none⟩)) (.agg c')).run Tryd.prog w = .ok () (w.setRow n c') := storeAt_row hg (by kernel_rfl) hs' h1
theorem zero5u (w : World) : (zeroValue 86).run Tryd.prog w = .ok (.agg (uTab 5 fun _ => 0)) w := by kernel_rfl
attribute [go_sem ↓] load5u store5u zero5u
attribute [go_sem] run_load5u run_store5u
/-! ### The move -/
def piN (f : Nat → Nat) (i : Nat) : Nat := f ((i % 5 + 3 * (i / 5)) % 5 + 5 * (i % 5))
def piUp (f : Nat → Nat) (x y i : Nat) : Nat := if i % 5 < x ∨ (i % 5 = x ∧ i / 5 < y) then piN f i else 0
theorem piUp_zero (f : Nat → Nat) : uTab 25 (piUp f 0 0) = uTab 25 fun _ => 0 := uTab_congr fun i hi => if_neg (by omega)
theorem piUp_full (f : Nat → Nat) : uTab 25 (piUp f 5 0) = uTab 25 (piN f) := uTab_congr fun i hi => if_pos (by omega)
theorem piUp_next (f : Nat → Nat) (x : Nat) : uTab 25 (piUp f x 5) = uTab 25 (piUp f (x + 1) 0) := uTab_congr fun i hi => by
  unfold piUp
  by_cases h : i % 5 < x ∨ (i % 5 = x ∧ i / 5 < 5)
  · rw [if_pos h, if_pos (by omega)]
  · rw [if_neg h, if_neg (by omega)]
theorem piUp_step (f : Nat → Nat) (x y : Nat) (hx : x < 5) (hy : y < 5) : (uTab 25 (piUp f x y)).setIfInBounds (placeN x y) (.int .u64 (f (placeN ((x + 3 * y) % 5) x) : Nat)) = uTab 25 (piUp f x (y + 1)) :=
  tab_set 25 _ _ _ _ (by
    unfold piUp placeN
    rw [if_pos (by omega)]
    unfold piN
    rw [show ((x % 5 + 5 * (y % 5)) % 5 + 3 * ((x % 5 + 5 * (y % 5)) / 5)) % 5 + 5 * ((x % 5 + 5 * (y % 5)) % 5) = (x + 3 * y) % 5 % 5 + 5 * (x % 5) by omega]) fun i hi hn => by
      unfold placeN at hn
      show Value.int .u64 ((piUp f x (y + 1) i : Nat) : Int) = Value.int .u64 ((piUp f x y i : Nat) : Int)
      unfold piUp
      by_cases h : i % 5 < x ∨ (i % 5 = x ∧ i / 5 < y)
      · rw [if_pos h, if_pos (by omega)]
      · rw [if_neg h, if_neg (by omega)]
/-! ### The offsets -/
def offX : Nat → Nat × Nat
  | 0 => (1, 0)
  | t + 1 => ((offX t).2, (2 * (offX t).1 + 3 * (offX t).2) % 5)
theorem offX_lt : ∀ t, (offX t).1 < 5 ∧ (offX t).2 < 5
  | 0 => by decide
  | t + 1 => ⟨(offX_lt t).2, by show (2 * (offX t).1 + 3 * (offX t).2) % 5 < 5; omega⟩
def offUp : Nat → Nat → Int
  | 0, _ => 0
  | t + 1, i => if i = placeN (offX t).1 (offX t).2 then (((t + 1) * (t + 2) / 2 % 64 : Nat) : Int) else offUp t i
def offL : List Nat := [0, 1, 62, 28, 27, 36, 44, 6, 55, 20, 3, 10, 43, 25, 39, 41, 45, 15, 21, 8, 18, 2, 61, 56, 14]
def offN (i : Nat) : Nat := offL.getD i 0
theorem offN_lt (i : Nat) : offN i < 64 := by
  rcases Nat.lt_or_ge i 25 with h | h
  · exact (by decide : ∀ i, i < 25 → offN i < 64) i h
  · unfold offN; rw [List.getD_eq_getElem?_getD, List.getElem?_eq_none h]; decide
theorem offUp_full : arr 25 (offUp 24) = arr 25 fun i => (offN i : Nat) := arr_congr fun i hi => (by decide +kernel : ∀ i, i < 25 → offUp 24 i = (offN i : Nat)) i hi
theorem offUp_step (t : Nat) : (arr 25 (offUp t)).setIfInBounds (placeN (offX t).1 (offX t).2) (.int .i64 (((t + 1) * (t + 2) / 2 % 64 : Nat) : Int)) = arr 25 (offUp (t + 1)) :=
  arr_set 25 _ _ _ _ (if_pos rfl) fun i _ hn => if_neg hn
/-! ### The constants -/
def cUp (r : Nat) : Nat → Nat → Int
  | 0, _ => 0
  | k + 1, i => if i = 2 ^ k - 1 then (rcN (k + 7 * r) : Nat) else cUp r k i
def constL : List Nat := [0x0000000000000001, 0x0000000000008082, 0x800000000000808A, 0x8000000080008000, 0x000000000000808B, 0x0000000080000001, 0x8000000080008081, 0x8000000000008009,
  0x000000000000008A, 0x0000000000000088, 0x0000000080008009, 0x000000008000000A, 0x000000008000808B, 0x800000000000008B, 0x8000000000008089, 0x8000000000008003,
  0x8000000000008002, 0x8000000000000080, 0x000000000000800A, 0x800000008000000A, 0x8000000080008081, 0x8000000000008080, 0x0000000080000001, 0x8000000080008008]
def constN (r : Nat) : Nat := constL.getD r 0
theorem constN_lt (r : Nat) : constN r < 18446744073709551616 := by
  rcases Nat.lt_or_ge r 24 with h | h
  · exact (by decide +kernel : ∀ r, r < 24 → constN r < 18446744073709551616) r h
  · unfold constN; rw [List.getD_eq_getElem?_getD, List.getElem?_eq_none h]; decide
theorem cUp_full (r : Nat) (hr : r < 24) (i : Nat) (hi : i < 64) : cUp r 7 i = bitI (constN r) i := (by decide +kernel : ∀ r, r < 24 → ∀ i, i < 64 → cUp r 7 i = bitI (constN r) i) r hr i hi
theorem cUp_step (r k : Nat) : (arr 64 (cUp r k)).setIfInBounds (2 ^ k - 1) (.int .i64 (rcN (k + 7 * r) : Nat)) = arr 64 (cUp r (k + 1)) :=
  arr_set 64 _ _ _ _ (if_pos rfl) fun i _ hn => if_neg hn
/-- The constant, bit for bit as the program lays it. -/
def cP (r : Nat) : Nat → Nat
  | 0 => 0
  | k + 1 => cP r k ||| (rcS (7 * r + k) % 2) * 2 ^ (2 ^ k - 1)
theorem cP_full (r : Nat) (hr : r < 24) : cP r 7 = constN r := (by decide +kernel : ∀ r, r < 24 → cP r 7 = constN r) r hr
theorem cP_lt (r : Nat) : ∀ k, k ≤ 7 → cP r k < 18446744073709551616
  | 0, _ => by show (0 : Nat) < _; decide
  | k + 1, h => by
    have ih := cP_lt r k (by omega)
    have h2 : rcS (7 * r + k) % 2 < 2 := Nat.mod_lt _ (by omega)
    have h3 : (2 : Nat) ^ k ≤ 2 ^ 6 := Nat.pow_le_pow_right (by omega) (by omega)
    have h4 : (2 : Nat) ^ (2 ^ k - 1) ≤ 2 ^ 63 := Nat.pow_le_pow_right (by omega) (by omega)
    have h5 : rcS (7 * r + k) % 2 * 2 ^ (2 ^ k - 1) ≤ 1 * 2 ^ 63 := Nat.mul_le_mul (by omega) h4
    exact or64 ih (by omega)
end Go.Proofs.YtknogmianfnfoaaDoor.L64
