/- Layer 16: numbers and texts encoded, as plain functions. No program is named here. -/
import Derived.Test.YthdnolhbefikoaaBytes
import Derived.Lib.BitFns
import Derived.Lib.ItoaNum
namespace Go.Proofs.Ythdnolhbefikoaa.Cd
open Go.RowKit
set_option linter.unusedVariables false
/-- How many bytes a number has, one at least. -/
def nb (x : Nat) : Nat :=
  if x < 256 then 1 else if x < 65536 then 2 else if x < 16777216 then 3 else if x < 4294967296 then 4 else if x < 1099511627776 then 5 else if x < 281474976710656 then 6 else if x < 72057594037927936 then 7 else 8
theorem nb_pos (x : Nat) : 1 ≤ nb x := by unfold nb; repeat' split
                                          all_goals omega
theorem nb_le (x : Nat) : nb x ≤ 8 := by unfold nb; repeat' split
                                         all_goals omega
theorem nb_lt (x : Nat) (h : x < 18446744073709551616) : x < 256 ^ nb x := by
  unfold nb; repeat' split
  all_goals omega
theorem nb_of {x k : Nat} (hk : 1 ≤ k) (hk8 : k ≤ 8) (h : x < 256 ^ k) (h2 : k = 1 ∨ 256 ^ (k - 1) ≤ x) : nb x = k := by
  unfold nb
  match k, hk, hk8 with
  | 1, _, _ => rw [if_pos (by omega)]
  | 2, _, _ => have := h2.resolve_left (by omega); repeat' split
               all_goals omega
  | 3, _, _ => have := h2.resolve_left (by omega); repeat' split
               all_goals omega
  | 4, _, _ => have := h2.resolve_left (by omega); repeat' split
               all_goals omega
  | 5, _, _ => have := h2.resolve_left (by omega); repeat' split
               all_goals omega
  | 6, _, _ => have := h2.resolve_left (by omega); repeat' split
               all_goals omega
  | 7, _, _ => have := h2.resolve_left (by omega); repeat' split
               all_goals omega
  | 8, _, _ => have := h2.resolve_left (by omega); repeat' split
               all_goals omega
theorem bitLen_one {x : Nat} (h0 : x ≠ 0) (h : x < 256) : 1 ≤ Lib.bitLen x ∧ Lib.bitLen x ≤ 8 :=
  ⟨(Lib.bitLenAux_bounds 64 x (by omega) h0).1, Lib.bitLen_le x 8 (by omega) (by omega)⟩
theorem nb_bits (x : Nat) (h : x < 18446744073709551616) (h0 : x ≠ 0) : (Lib.bitLen x + 7) / 8 = nb x := by
  unfold nb
  by_cases h1 : x < 256
  · rw [if_pos h1]; have := bitLen_one h0 h1; omega
  rw [if_neg h1]
  by_cases h2 : x < 65536
  · rw [if_pos h2]; have := Lib.bitLen_shift8 x (by omega) h; have := bitLen_one (x := x / 256) (by omega) (by omega); omega
  rw [if_neg h2]
  by_cases h3 : x < 16777216
  · rw [if_pos h3]; have := Lib.bitLen_shift16 x (by omega) h; have := bitLen_one (x := x / 65536) (by omega) (by omega); omega
  rw [if_neg h3]
  by_cases h4 : x < 4294967296
  · rw [if_pos h4]; have := Lib.bitLen_shift24 x (by omega) h; have := bitLen_one (x := x / 16777216) (by omega) (by omega); omega
  rw [if_neg h4]
  by_cases h5 : x < 1099511627776
  · rw [if_pos h5]; have := Lib.bitLen_shift32 x (by omega) h; have := bitLen_one (x := x / 4294967296) (by omega) (by omega); omega
  rw [if_neg h5]
  by_cases h6 : x < 281474976710656
  · rw [if_pos h6]; have := Lib.bitLen_shift40 x (by omega) h; have := bitLen_one (x := x / 1099511627776) (by omega) (by omega); omega
  rw [if_neg h6]
  by_cases h7 : x < 72057594037927936
  · rw [if_pos h7]; have := Lib.bitLen_shift48 x (by omega) h; have := bitLen_one (x := x / 281474976710656) (by omega) (by omega); omega
  rw [if_neg h7]
  have := Lib.bitLen_shift56 x (by omega) h; have := bitLen_one (x := x / 72057594037927936) (by omega) (by omega); omega
theorem bitLen_zero : Lib.bitLen 0 = 0 := Lib.bitLenAux_zero 64

def dig (x : Nat) : List Nat := beB (nb x) x
theorem dig_length (x : Nat) : (dig x).length = nb x := beB_length _ _
theorem dig_lt (x : Nat) : AllLt 256 (dig x) := beB_lt _ _
theorem be_dig (x : Nat) (h : x < 18446744073709551616) : be (dig x) = x := by rw [dig, be_beB, Nat.mod_eq_of_lt (nb_lt x h)]
def leftN (x : Nat) : List Nat := [nb x] ++ dig x
def rightN (x : Nat) : List Nat := dig x ++ [nb x]
theorem leftN_length (x : Nat) : (leftN x).length = nb x + 1 := by unfold leftN; rw [List.length_append, dig_length]; simp; omega
theorem rightN_length (x : Nat) : (rightN x).length = nb x + 1 := by unfold rightN; rw [List.length_append, dig_length]; simp
theorem one_lt (x : Nat) : AllLt 256 [nb x] := fun y hy => by have := nb_le x; simp at hy; omega
theorem leftN_lt (x : Nat) : AllLt 256 (leftN x) := (one_lt x).append (dig_lt x)
theorem rightN_lt (x : Nat) : AllLt 256 (rightN x) := (dig_lt x).append (one_lt x)
def textN (xs : List Nat) : List Nat := leftN (8 * xs.length) ++ xs
theorem textN_length (xs : List Nat) : (textN xs).length = nb (8 * xs.length) + 1 + xs.length := by unfold textN; rw [List.length_append, leftN_length]
theorem textN_lt {xs : List Nat} (h : AllLt 256 xs) : AllLt 256 (textN xs) := (leftN_lt _).append h
def noughts (k : Nat) : List Nat := List.replicate k 0
theorem noughts_lt (k : Nat) : AllLt 256 (noughts k) := fun y hy => by have := List.eq_of_mem_replicate hy; omega
def padK (w n : Nat) : Nat := (w - n % w) % w
def padH (w : Nat) (xs : List Nat) : List Nat := leftN w ++ xs
def padN (w : Nat) (xs : List Nat) : List Nat := padH w xs ++ noughts (padK w (padH w xs).length)
theorem padH_length (w : Nat) (xs : List Nat) : (padH w xs).length = nb w + 1 + xs.length := by unfold padH; rw [List.length_append, leftN_length]
theorem padK_lt {w n : Nat} (h : 1 ≤ w) : padK w n < w := Nat.mod_lt _ h
theorem padK_dvd {w n : Nat} (h : 1 ≤ w) : (n + padK w n) % w = 0 := by
  have h1 := Nat.mod_lt n h
  unfold padK
  by_cases h0 : n % w = 0
  · rw [h0, Nat.sub_zero, Nat.mod_self, Nat.add_zero]; exact h0
  · rw [Nat.mod_eq_of_lt (a := w - n % w) (by omega)]
    have h2 := Nat.div_add_mod n w
    rw [show n + (w - n % w) = w * (n / w) + w by omega, Nat.add_mod, Nat.mul_mod_right, Nat.mod_self]; simp
/-- Short of the multiple a sum is none. -/
theorem padK_no {w n k : Nat} (h : 1 ≤ w) (hk : k < padK w n) : (n + k) % w ≠ 0 := fun hz => by
  have h1 := Nat.mod_lt n h
  have hw := padK_lt (n := n) h
  have hd := padK_dvd (n := n) h
  have e1 : (n + padK w n - (n + k)) % w = 0 := by rw [Nat.sub_mod_eq_zero_of_mod_eq (by rw [hz, hd])]
  rw [show n + padK w n - (n + k) = padK w n - k by omega, Nat.mod_eq_of_lt (by omega)] at e1
  omega
theorem padN_length (w : Nat) (xs : List Nat) : (padN w xs).length = nb w + 1 + xs.length + padK w (nb w + 1 + xs.length) := by
  unfold padN; rw [List.length_append, noughts, List.length_replicate, padH_length]
theorem padN_mod {w : Nat} (h : 1 ≤ w) (xs : List Nat) : (padN w xs).length % w = 0 := by rw [padN_length]; exact padK_dvd h
theorem padH_lt {w : Nat} {xs : List Nat} (h : AllLt 256 xs) : AllLt 256 (padH w xs) := (leftN_lt _).append h
theorem padN_lt {w : Nat} {xs : List Nat} (h : AllLt 256 xs) : AllLt 256 (padN w xs) := (padH_lt h).append (noughts_lt _)
/-- What a width asks, 1 to 1000; of any other nothing. -/
def okW (w : Int) : Bool := decide (1 ≤ w ∧ w ≤ 1000)
def padB (w : Int) (xs : List Nat) : List Nat := if okW w = true then padN w.toNat xs else []
theorem padB_lt {w : Int} {xs : List Nat} (h : AllLt 256 xs) : AllLt 256 (padB w xs) := by
  unfold padB; split
  · exact padN_lt h
  · exact fun y hy => by cases hy
theorem noughts_succ (k : Nat) : noughts (k + 1) = noughts k ++ [0] := List.replicate_succ'

/-! ### Told again -/
def hd (xs : List Nat) : Nat := xs.getD 0 0
def inN (xs : List Nat) : Nat := be ((xs.drop 1).take (hd xs))
def glok (xs : List Nat) : Bool := decide (hd xs ≤ 8 ∧ hd xs < xs.length ∧ xs.take (nb (inN xs) + 1) = leftN (inN xs))
def getN (xs : List Nat) : Nat := if glok xs = true then inN xs else 0
def getS (xs : List Nat) : Nat := if glok xs = true then nb (inN xs) + 1 else 0
theorem inN_lt {xs : List Nat} (hx : AllLt 256 xs) (h : hd xs ≤ 8) : inN xs < 18446744073709551616 := by
  have h1 := be_lt _ ((hx.drop 1).take (hd xs))
  have h2 : ((xs.drop 1).take (hd xs)).length ≤ 8 := by rw [List.length_take]; omega
  exact Nat.lt_of_lt_of_le h1 (Nat.le_trans (Nat.pow_le_pow_right (by omega) h2) (by omega))
theorem leftN_hd (x : Nat) (ys : List Nat) : hd (leftN x ++ ys) = nb x := rfl
theorem leftN_in (x : Nat) (ys : List Nat) (h : x < 18446744073709551616) : inN (leftN x ++ ys) = x := by
  unfold inN
  rw [leftN_hd]
  unfold leftN
  rw [List.append_assoc]
  simp only [List.cons_append, List.nil_append, List.drop_succ_cons, List.drop_zero]
  rw [← dig_length x, List.take_left, be_dig x h]
theorem glok_left (x : Nat) (ys : List Nat) (h : x < 18446744073709551616) : glok (leftN x ++ ys) = true := by
  unfold glok
  rw [leftN_in x ys h, leftN_hd]
  refine decide_eq_true ⟨nb_le x, ?_, ?_⟩
  · rw [List.length_append, leftN_length]; omega
  · rw [← leftN_length, List.take_left]
theorem getN_left (x : Nat) (ys : List Nat) (h : x < 18446744073709551616) : getN (leftN x ++ ys) = x := by
  unfold getN; rw [if_pos (glok_left x ys h), leftN_in x ys h]
theorem getS_left (x : Nat) (ys : List Nat) (h : x < 18446744073709551616) : getS (leftN x ++ ys) = nb x + 1 := by
  unfold getS; rw [if_pos (glok_left x ys h), leftN_in x ys h]
theorem glok_hd {xs : List Nat} (h : glok xs = true) : hd xs = nb (inN xs) := by
  have h3 := (of_decide_eq_true h).2.2
  have h2 := (of_decide_eq_true h).2.1
  cases xs with
  | nil => simp at h2
  | cons y ys => rw [List.take_succ_cons] at h3; unfold leftN at h3; rw [List.cons_append] at h3; exact (List.cons.inj h3).1
theorem getS_le (xs : List Nat) : getS xs ≤ xs.length := by
  unfold getS; split
  · rename_i h; have h1 := (of_decide_eq_true h).2.1; have := glok_hd h; omega
  · omega
theorem getS_le9 (xs : List Nat) : getS xs ≤ 9 := by
  unfold getS; split
  · have := nb_le (inN xs); omega
  · omega
theorem getS_pos (xs : List Nat) : (getS xs = 0) = (glok xs = false) := by
  unfold getS; cases h : glok xs <;> simp
/-- What b begins with, held against another size: no. -/
theorem glok_size {xs : List Nat} (hx : AllLt 256 xs) {s : Nat} (h1 : 1 ≤ s) (h8 : s ≤ 8) (hs : s < xs.length) (h : leftN (be ((xs.drop 1).take s)) = xs.take (s + 1)) : glok xs = true ∧ hd xs = s ∧ inN xs = be ((xs.drop 1).take s) := by
  have hl : (leftN (be ((xs.drop 1).take s))).length = s + 1 := by rw [h, List.length_take]; omega
  rw [leftN_length] at hl
  have hh : hd xs = s := by
    cases xs with
    | nil => simp at hs
    | cons y ys => rw [List.take_succ_cons] at h; unfold leftN at h; rw [List.cons_append] at h; have := (List.cons.inj h).1; show y = s; omega
  have hi : inN xs = be ((xs.drop 1).take s) := by unfold inN; rw [hh]
  refine ⟨?_, hh, hi⟩
  unfold glok
  rw [hi]
  refine decide_eq_true ⟨by omega, by omega, ?_⟩
  rw [h, show nb (be ((xs.drop 1).take s)) = s by omega]
theorem glok_at {xs : List Nat} (h : glok xs = true) : leftN (be ((xs.drop 1).take (hd xs))) = xs.take (hd xs + 1) := by
  have h3 := (of_decide_eq_true h).2.2
  rw [← glok_hd h] at h3
  exact h3.symm

def gtok (xs : List Nat) : Bool := glok xs && decide (getN xs % 8 = 0 ∧ getN xs / 8 ≤ xs.length - getS xs)
def getB (xs : List Nat) : List Nat := if gtok xs = true then (xs.drop (getS xs)).take (getN xs / 8) else []
def getE (xs : List Nat) : Nat := if gtok xs = true then getS xs + getN xs / 8 else 0
theorem gtok_text (xs ys : List Nat) (h : xs.length ≤ 1000000) : gtok (textN xs ++ ys) = true ∧ getB (textN xs ++ ys) = xs ∧ getE (textN xs ++ ys) = (textN xs).length := by
  have hl : 8 * xs.length < 18446744073709551616 := by omega
  have hk : gtok (textN xs ++ ys) = true := by
    unfold gtok textN
    rw [List.append_assoc, glok_left _ _ hl, getN_left _ _ hl, getS_left _ _ hl, Bool.true_and]
    refine decide_eq_true ⟨by omega, ?_⟩
    rw [List.length_append, leftN_length, List.length_append]; omega
  refine ⟨hk, ?_, ?_⟩
  · unfold getB
    rw [if_pos hk]
    unfold textN
    rw [List.append_assoc, getN_left _ _ hl, getS_left _ _ hl, ← leftN_length, List.drop_left, show 8 * xs.length / 8 = xs.length by omega, List.take_left]
  · unfold getE
    rw [if_pos hk]
    rw [textN_length]
    unfold textN
    rw [List.append_assoc, getN_left _ _ hl, getS_left _ _ hl]
    omega
/-- Unlike lists of texts, encoded, are unlike. -/
theorem texts_inj : ∀ (la lb : List (List Nat)), (∀ x ∈ la, x.length ≤ 1000000) → (∀ x ∈ lb, x.length ≤ 1000000) → (la.map textN).flatten = (lb.map textN).flatten → la = lb
  | [], [], _, _, _ => rfl
  | [], b :: lb, _, _, h => by
    have := congrArg List.length h
    rw [List.map_cons, List.flatten_cons, List.length_append, textN_length] at this
    simp at this
    try omega
  | a :: la, [], _, _, h => by
    have := congrArg List.length h
    rw [List.map_cons, List.flatten_cons, List.length_append, textN_length] at this
    simp at this
    try omega
  | a :: la, b :: lb, ha, hb, h => by
    rw [List.map_cons, List.flatten_cons, List.map_cons, List.flatten_cons] at h
    have h1 := gtok_text a (la.map textN).flatten (ha a (by simp))
    have h2 := gtok_text b (lb.map textN).flatten (hb b (by simp))
    rw [h] at h1
    have e : a = b := h1.2.1.symm.trans h2.2.1
    subst e
    rw [texts_inj la lb (fun x hx => ha x (by simp [hx])) (fun x hx => hb x (by simp [hx])) (List.append_cancel_left h)]
end Go.Proofs.Ythdnolhbefikoaa.Cd
