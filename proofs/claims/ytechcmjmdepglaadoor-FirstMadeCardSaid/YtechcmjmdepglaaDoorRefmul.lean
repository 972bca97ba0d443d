/- Layer 5: the document's own answers: products of numbers in digits. -/
import Derived.Test.YtechcmjmdepglaaDoorRefroot
namespace Go.Proofs.YtechcmjmdepglaaDoor
open Go.RowKit
set_option linter.unusedVariables false
set_option linter.unusedSimpArgs false

/-! ### Rows of digits told by a function -/
def rowF (n : Nat) (f : Nat → Nat) : List Nat := (List.range n).map f
def valF (n : Nat) (f : Nat → Nat) : Nat := valB (rowF n f)
def updF (f : Nat → Nat) (k v : Nat) : Nat → Nat := fun i => if i = k then v else f i
theorem valF_zero (f : Nat → Nat) : valF 0 f = 0 := rfl
theorem valF_succ (n : Nat) (f : Nat → Nat) : valF (n + 1) f = valF n f + f n * 65536 ^ n := by
  unfold valF rowF
  rw [range_succ_map, valB_append, List.length_map, List.length_range, valB, valB, Nat.mul_zero, Nat.add_zero, Nat.mul_comm]
theorem valF_congr {n : Nat} {f g : Nat → Nat} (h : ∀ i, i < n → f i = g i) : valF n f = valF n g := by
  unfold valF rowF; congr 1; exact List.map_congr_left fun i hi => h i (List.mem_range.1 hi)
theorem valF_upd (f : Nat → Nat) (k v : Nat) : ∀ n, k < n → valF n (updF f k v) + f k * 65536 ^ k = valF n f + v * 65536 ^ k
  | n + 1, h => by
    rw [valF_succ, valF_succ]
    by_cases hk : k = n
    · subst hk
      rw [valF_congr (g := f) fun i hi => by unfold updF; rw [if_neg (by omega)], show updF f k v k = v from if_pos rfl]
      omega
    · have ih := valF_upd f k v n (by omega)
      rw [show updF f k v n = f n from if_neg (by omega)]
      omega
theorem valF_zeros (n : Nat) (f : Nat → Nat) (h : ∀ i, f i = 0) : valF n f = 0 := by
  induction n with
  | zero => rfl
  | succ n ih => rw [valF_succ, ih, h]; simp
def uTab (n : Nat) (f : Nat → Nat) : Array Value := tab n fun i => .int .u64 (f i : Nat)
theorem uTab_size (n : Nat) (f : Nat → Nat) : (uTab n f).size = n := tab_size _ _
theorem uTab_at (n : Nat) (f : Nat → Nat) (i : Nat) (h : i < n) : (uTab n f)[i]? = some (.int .u64 (f i : Nat)) := tab_at _ _ _ h
theorem uTab_getElem (n : Nat) (f : Nat → Nat) (i : Nat) (h : i < (uTab n f).size) : (uTab n f)[i] = .int .u64 (f i : Nat) := by
  have e := uTab_at n f i (by simpa [uTab_size] using h)
  rw [Array.getElem?_eq_getElem h] at e
  injection e
attribute [go_sem] uTab_size uTab_getElem
theorem uTab_set (n : Nat) (f : Nat → Nat) (k v : Nat) (u : Int) (hu : u = (v : Nat)) : (uTab n f).setIfInBounds k (.int .u64 u) = uTab n (updF f k v) :=
  tab_set n _ _ k _ (by rw [hu]; simp [updF]) fun i _ hn => by simp [updF, hn]
theorem uTab_zeros (n : Nat) : zeros .u64 n = uTab n fun _ => 0 := by
  rw [upTo_zero .u64 n fun _ => 0]; exact tab_congr fun i _ => by rw [if_neg (by omega)]
theorem words_uTab (w : World) (t : TypeId) (n : Nat) (f : Nat → Nat) : Words .u64 (w.alloc (.cells (uTab n f) t)) (some ⟨w.heap.size, 0, none⟩) (rowF n f) := fun i hi => by
  have hi' : i < n := by simpa [rowF] using hi
  refine ⟨w.heap.size, 0, rfl, ?_⟩
  rw [cell_of_row _ _ _ (uTab n f) t (0, 0) (heap_alloc_new w _), Nat.zero_add, uTab_at _ _ _ hi', rowF, getD_map _ _ _ _ hi']
theorem rowF_length (n : Nat) (f : Nat → Nat) : (rowF n f).length = n := by simp [rowF]
theorem rowF_lt {n : Nat} {f : Nat → Nat} (h : ∀ i, f i < 65536) : AllLt 65536 (rowF n f) := AllLt.map fun i _ => h i
theorem updF_lt {f : Nat → Nat} {k v : Nat} (h : ∀ i, f i < 65536) (hv : v < 65536) : ∀ i, updF f k v i < 65536 := fun i => by unfold updF; split; exact hv; exact h i
/-! ### A step of the product -/
theorem mul_step {F F' f s c P A E : Nat} (h1 : F' + f * P = F + s % 65536 * P) (h2 : F + c * P = A) (hs : s = f + E + c) : F' + s / 65536 * (P * 65536) = A + E * P := by
  have h3 : s * P = s % 65536 * P + s / 65536 * (P * 65536) := by
    rw [Nat.mul_comm P, ← Nat.mul_assoc, ← Nat.add_mul]; congr 1; omega
  have h4 : s * P = f * P + E * P + c * P := by rw [hs, Nat.add_mul, Nat.add_mul]
  omega
theorem take_val (ys : List Nat) (k : Nat) (h : k < ys.length) : valB (ys.take (k + 1)) = valB (ys.take k) + ys.getD k 0 * 65536 ^ k := by
  rw [take_snocD ys k h, valB_append, List.length_take, Nat.min_eq_left (by omega), valB, valB, Nat.mul_zero, Nat.add_zero, Nat.mul_comm (65536 ^ k)]
/-- What the inner loop holds: digits, noughts above, the sum. -/
def Inner (n lb i : Nat) (ys : List Nat) (V x : Nat) (f : Nat → Nat) (c k : Nat) : Prop :=
  (∀ j, f j < 65536) ∧ (∀ j, i + lb ≤ j → i + k ≤ j → f j = 0) ∧ c < 65536 ∧ (lb < k → c = 0) ∧ valF n f + c * 65536 ^ (i + k) = V + x * valB (ys.take k) * 65536 ^ i
theorem inner_step {n lb i : Nat} {ys : List Nat} {V x : Nat} {f : Nat → Nat} {c k d s : Nat} (hl : lb = ys.length) (hn : i + k < n) (hk : k ≤ lb) (h : Inner n lb i ys V x f c k) (hx : x < 65536) (hd : d = if k < lb then ys.getD k 0 else 0) (hd2 : d < 65536) (hs : s = f (i + k) + x * d + c) :
    Inner n lb i ys V x (updF f (i + k) (s % 65536)) (s / 65536) (k + 1) ∧ s < 4294967296 := by
  obtain ⟨h1, h2, h3, h4, h5⟩ := h
  have hf := h1 (i + k)
  have hxd : x * d ≤ 65535 * 65535 := Nat.mul_le_mul (by omega) (by omega)
  have hs2 : s < 4294967296 := by omega
  refine ⟨⟨updF_lt h1 (Nat.mod_lt _ (by omega)), fun j hj1 hj2 => by unfold updF; rw [if_neg (by omega)]; exact h2 j hj1 (by omega), by omega, fun hlt => ?_, ?_⟩, hs2⟩
  · have hkl : k = lb := by omega
    subst hkl
    have hz := h2 (i + k) (Nat.le_refl _) (Nat.le_refl _)
    rw [if_neg (by omega)] at hd
    subst hd
    rw [hz] at hs
    omega
  · have hu := valF_upd f (i + k) (s % 65536) n hn
    have hm := mul_step hu h5 hs
    rw [show i + (k + 1) = i + k + 1 by omega, Nat.pow_succ, hm]
    have e : x * d * 65536 ^ (i + k) = x * (d * 65536 ^ k) * 65536 ^ i := by
      rw [Nat.pow_add, Nat.mul_comm (65536 ^ i), ← Nat.mul_assoc, ← Nat.mul_assoc, Nat.mul_assoc x d]
    rw [e]
    by_cases hlt : k < lb
    · rw [if_pos hlt] at hd
      rw [take_val ys k (by omega), ← hd, Nat.mul_add, Nat.add_mul, Nat.add_assoc]
    · rw [if_neg hlt] at hd
      rw [hd, Nat.zero_mul, Nat.mul_zero, Nat.zero_mul, Nat.add_zero, List.take_of_length_le (by omega), List.take_of_length_le (by omega)]
def Outer (n lb : Nat) (xs ys : List Nat) (f : Nat → Nat) (i : Nat) : Prop := (∀ j, f j < 65536) ∧ (∀ j, i + lb ≤ j → f j = 0) ∧ valF n f = valB (xs.take i) * valB ys
theorem outer_in {n lb : Nat} {xs ys : List Nat} {f : Nat → Nat} {i : Nat} (h : Outer n lb xs ys f i) : Inner n lb i ys (valB (xs.take i) * valB ys) (xs.getD i 0) f 0 0 :=
  ⟨h.1, fun j hj _ => h.2.1 j hj, by omega, fun h => by omega, by rw [h.2.2]; simp [valB]⟩
theorem outer_out {n lb : Nat} {xs ys : List Nat} {f : Nat → Nat} {i c : Nat} (hl : lb = ys.length) (hi : i < xs.length) (h : Inner n lb i ys (valB (xs.take i) * valB ys) (xs.getD i 0) f c (lb + 1)) : Outer n lb xs ys f (i + 1) := by
  obtain ⟨h1, h2, h3, h4, h5⟩ := h
  refine ⟨h1, fun j hj => h2 j (by omega) (by omega), ?_⟩
  have e : ys.take (lb + 1) = ys := List.take_of_length_le (by omega)
  rw [h4 (by omega), Nat.zero_mul, Nat.add_zero, e] at h5
  rw [h5, take_val xs i hi, Nat.add_mul]
  congr 1
  rw [Nat.mul_assoc, Nat.mul_comm (valB ys), ← Nat.mul_assoc]
theorem words_first {k : IntKind} {w : World} {A : Option Addr} {xs : List Nat} (h : Words k w A xs) (n : Nat) : Words k w A (xs.take n) := fun i hi => by
  have hn : i < n := by rw [List.length_take] at hi; omega
  obtain ⟨b, o, e, hc⟩ := h i (by rw [List.length_take] at hi; omega)
  exact ⟨b, o, e, by rw [getD_take _ _ _ hn]; exact hc⟩
end Go.Proofs.YtechcmjmdepglaaDoor
