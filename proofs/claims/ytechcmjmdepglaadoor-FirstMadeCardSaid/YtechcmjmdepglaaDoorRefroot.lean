/- Layer 5: the document's own answers: numbers in digits of sixteen bits. -/
import Derived.Test.YtechcmjmdepglaaDoorRows
import Derived.Test.YtechcmjmdepglaaDoorBytes
namespace Go.Proofs.YtechcmjmdepglaaDoor
open Go.RowKit
set_option linter.unusedVariables false
set_option linter.unusedSimpArgs false

/-! ### Digits -/
/-- What digits of sixteen bits, the lowest one first, come to. -/
def valB : List Nat → Nat
  | [] => 0
  | d :: l => d + 65536 * valB l
theorem valB_append (xs ys : List Nat) : valB (xs ++ ys) = valB xs + 65536 ^ xs.length * valB ys := by
  induction xs with
  | nil => simp [valB]
  | cons d l ih => rw [List.cons_append, valB, ih, valB, List.length_cons, Nat.pow_succ, Nat.mul_add, Nat.mul_comm (65536 ^ l.length) 65536, Nat.mul_assoc, Nat.add_assoc]
theorem valB_lt {xs : List Nat} (h : AllLt 65536 xs) : valB xs < 65536 ^ xs.length := by
  induction xs with
  | nil => simp [valB]
  | cons d l ih =>
    have h1 := ih (fun x hx => h x (List.mem_cons_of_mem _ hx))
    have h2 := h d List.mem_cons_self
    rw [valB, List.length_cons, Nat.pow_succ]
    omega
theorem valB_take_drop (xs : List Nat) (j : Nat) (hj : j ≤ xs.length) : valB xs = valB (xs.take j) + 65536 ^ j * valB (xs.drop j) := by
  have h := valB_append (xs.take j) (xs.drop j)
  rw [List.take_append_drop, List.length_take, Nat.min_eq_left hj] at h
  exact h
theorem drop_cons (xs : List Nat) (j : Nat) (hj : j < xs.length) : xs.drop j = xs.getD j 0 :: xs.drop (j + 1) := by
  rw [List.drop_eq_getElem_cons hj]; simp [List.getD_eq_getElem?_getD, hj]
/-- Without noughts above. -/
def Norm (xs : List Nat) : Prop := xs = [] ∨ xs.getD (xs.length - 1) 0 ≠ 0
/-- These are the digits of X. -/
def NumAt (X : Nat) (ys : List Nat) : Prop := AllLt 65536 ys ∧ Norm ys ∧ valB ys = X
def digs (k x : Nat) : List Nat := (List.range k).map fun i => x / 65536 ^ i % 65536
theorem digs_length (k x : Nat) : (digs k x).length = k := by simp [digs]
theorem digs_succ (k x : Nat) : digs (k + 1) x = digs k x ++ [x / 65536 ^ k % 65536] := range_succ_map _ _
theorem digs_lt (k x : Nat) : AllLt 65536 (digs k x) := AllLt.map fun _ _ => Nat.mod_lt _ (by omega)
theorem digs_val (x : Nat) : ∀ k, valB (digs k x) = x % 65536 ^ k
  | 0 => by simp [digs, valB, Nat.mod_one]
  | k + 1 => by
    rw [digs_succ, valB_append, digs_val x k, digs_length, Nat.pow_succ, Nat.mod_mul]
    simp [valB]
theorem digs_num (x k : Nat) (h0 : x / 65536 ^ k = 0) (h1 : k = 0 ∨ x / 65536 ^ (k - 1) ≠ 0) : NumAt x (digs k x) := by
  have hx : x < 65536 ^ k := by
    rcases Nat.lt_or_ge x (65536 ^ k) with h | h
    · exact h
    · have := Nat.div_pos h (Nat.pow_pos (by omega : 0 < 65536)); omega
  refine ⟨digs_lt k x, ?_, by rw [digs_val, Nat.mod_eq_of_lt hx]⟩
  rcases h1 with rfl | h1
  · exact .inl rfl
  · rcases k with _ | k
    · exact .inl rfl
    · right
      rw [digs_length, Nat.add_sub_cancel]
      unfold digs
      rw [getD_map _ _ _ _ (by omega)]
      rw [Nat.add_sub_cancel] at h1
      have h2 : x / 65536 ^ k < 65536 := by rw [Nat.div_lt_iff_lt_mul (Nat.pow_pos (by omega)), Nat.mul_comm, ← Nat.pow_succ]; exact hx
      rw [Nat.mod_eq_of_lt h2]; exact h1
theorem zeros_val : ∀ xs : List Nat, (∀ i, i < xs.length → xs.getD i 0 = 0) → valB xs = 0
  | [], _ => rfl
  | d :: l, h => by
    have h0 : d = 0 := h 0 (by simp)
    have h1 := zeros_val l fun i hi => h (i + 1) (by simpa using hi)
    rw [valB, h0, h1]
theorem trim_val (xs : List Nat) (k : Nat) (hk : k ≤ xs.length) (h : ∀ i, k ≤ i → i < xs.length → xs.getD i 0 = 0) : valB (xs.take k) = valB xs := by
  rw [valB_take_drop xs k hk, zeros_val (xs.drop k) fun i hi => by rw [getD_drop]; exact h _ (by omega) (by rw [List.length_drop] at hi; omega)]
  omega
theorem info_parts5 {o : Option TypeInfo} {z : Value} {a b : Nat} (h : o.map (fun i => (i.zero, i.size, i.bytes)) = some (some z, a, b)) : ∃ i, o = some i ∧ i.zero = some z ∧ i.size = a ∧ i.bytes = b := by
  cases o with
  | none => cases h
  | some i => simp at h; exact ⟨i, rfl, h.1, h.2.1, h.2.2⟩
theorem u64_info5 : (Tryd.prog.info? 23).map (fun i => (i.zero, i.size, i.bytes)) = some (some (.int .u64 0), 1, 8) := by kernel_rfl
theorem div_succ5 (x k : Nat) : x / 65536 ^ (k + 1) = x / 65536 ^ k / 65536 := by rw [Nat.pow_succ, Nat.div_div_eq_div_mul]
/-- The length of a slice. -/
def lenOfV : Value → Nat
  | .slice _ n _ => n
  | _ => 0
theorem norm_low {xs : List Nat} (hn : Norm xs) (h0 : xs ≠ []) : 65536 ^ (xs.length - 1) ≤ valB xs := by
  have hl : 0 < xs.length := List.length_pos_iff.2 h0
  rcases hn with h | h
  · exact absurd h h0
  · have h1 := valB_take_drop xs (xs.length - 1) (by omega)
    rw [drop_cons xs (xs.length - 1) (by omega), show xs.length - 1 + 1 = xs.length by omega, List.drop_length, valB, valB] at h1
    rw [h1]
    have h2 : 65536 ^ (xs.length - 1) * 1 ≤ 65536 ^ (xs.length - 1) * (xs.getD (xs.length - 1) 0 + 65536 * 0) := Nat.mul_le_mul_left _ (by omega)
    omega
/-- More digits: a greater number. -/
theorem longer {xs ys : List Nat} (hx : AllLt 65536 xs) (hy : AllLt 65536 ys) (hny : Norm ys) (h : xs.length < ys.length) : valB xs < valB ys := by
  have h1 := valB_lt hx
  have h2 := norm_low hny (fun e => by rw [e] at h; simp at h)
  have h3 : 65536 ^ xs.length ≤ 65536 ^ (ys.length - 1) := Nat.pow_le_pow_right (by omega) (by omega)
  omega
theorem digit_lt {xs ys : List Nat} (hx : AllLt 65536 xs) (hl : xs.length = ys.length) (j : Nat) (hj : j < xs.length) (hd : xs.drop (j + 1) = ys.drop (j + 1)) (h : xs.getD j 0 < ys.getD j 0) : valB xs < valB ys := by
  have h1 := valB_take_drop xs j (by omega)
  have h2 := valB_take_drop ys j (by omega)
  have h3 := valB_lt (hx.take j)
  rw [List.length_take, Nat.min_eq_left (by omega)] at h3
  rw [drop_cons xs j hj, valB, hd] at h1
  rw [drop_cons ys j (by omega), valB] at h2
  generalize valB (ys.drop (j + 1)) = z at *
  generalize 65536 ^ j = P at *
  have h4 : P * (xs.getD j 0 + 65536 * z + 1) ≤ P * (ys.getD j 0 + 65536 * z) := Nat.mul_le_mul_left _ (by omega)
  rw [Nat.mul_add P _ 1] at h4
  omega
def moreB (X Y : Nat) : Bool := decide (Y < X)
end Go.Proofs.YtechcmjmdepglaaDoor
