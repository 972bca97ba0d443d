/- Plain facts: words made of bytes, bytes of words, pieces of lists. No program is named here. -/
import Derived.Test.YtpdbbeafleeajaaDoorBase
import Derived.Laws.MakeOwn
import Derived.Maps.AppendAt
namespace Go.Proofs.YtpdbbeafleeajaaDoor
open Go.RowKit
set_option linter.unusedVariables false

def AllLt (m : Nat) (xs : List Nat) : Prop := ∀ x ∈ xs, x < m
theorem AllLt.at {m : Nat} {xs : List Nat} (h : AllLt m xs) {i : Nat} (hi : i < xs.length) : xs.getD i 0 < m := h _ (by rw [List.getD_eq_getElem?_getD, List.getElem?_eq_getElem hi]; exact List.getElem_mem hi)
theorem AllLt.take {m : Nat} {xs : List Nat} (h : AllLt m xs) (k : Nat) : AllLt m (xs.take k) := fun x hx => h x (List.mem_of_mem_take hx)
theorem AllLt.drop {m : Nat} {xs : List Nat} (h : AllLt m xs) (k : Nat) : AllLt m (xs.drop k) := fun x hx => h x (List.mem_of_mem_drop hx)
theorem AllLt.reverse {m : Nat} {xs : List Nat} (h : AllLt m xs) : AllLt m xs.reverse := fun x hx => h x (List.mem_reverse.1 hx)
theorem AllLt.append {m : Nat} {xs ys : List Nat} (h : AllLt m xs) (k : AllLt m ys) : AllLt m (xs ++ ys) := fun x hx => (List.mem_append.1 hx).elim (h x) (k x)
theorem AllLt.mono {m n : Nat} {xs : List Nat} (h : AllLt m xs) (k : m ≤ n) : AllLt n xs := fun x hx => Nat.lt_of_lt_of_le (h x hx) k
theorem AllLt.map {m : Nat} {α : Type} {f : α → Nat} {l : List α} (h : ∀ a ∈ l, f a < m) : AllLt m (l.map f) := fun x hx => by
  obtain ⟨a, ha, rfl⟩ := List.mem_map.1 hx; exact h a ha
theorem take_snocD (xs : List Nat) (k : Nat) (h : k < xs.length) : xs.take (k + 1) = xs.take k ++ [xs.getD k 0] := by
  rw [List.take_succ_eq_append_getElem h]; simp [List.getD_eq_getElem?_getD, h]
theorem getD_drop (xs : List Nat) (i k : Nat) : (xs.drop i).getD k 0 = xs.getD (i + k) 0 := by
  rw [List.getD_eq_getElem?_getD, List.getD_eq_getElem?_getD, List.getElem?_drop]
theorem getD_take (xs : List Nat) (n k : Nat) (h : k < n) : (xs.take n).getD k 0 = xs.getD k 0 := by
  rw [List.getD_eq_getElem?_getD, List.getD_eq_getElem?_getD, List.getElem?_take_of_lt h]
theorem getD_map {α : Type} (f : Nat → α) (n k : Nat) (d : α) (h : k < n) : ((List.range n).map f).getD k d = f k := by
  rw [List.getD_eq_getElem?_getD, List.getElem?_map, List.getElem?_range h]; rfl
theorem ext_getD {xs ys : List Nat} (hl : xs.length = ys.length) (h : ∀ i, i < xs.length → xs.getD i 0 = ys.getD i 0) : xs = ys := by
  apply List.ext_getElem hl
  intro i h1 h2
  have := h i h1
  rw [List.getD_eq_getElem?_getD, List.getD_eq_getElem?_getD, List.getElem?_eq_getElem h1, List.getElem?_eq_getElem h2] at this
  exact this
theorem range_succ_map {α : Type} (f : Nat → α) (k : Nat) : (List.range (k + 1)).map f = (List.range k).map f ++ [f k] := by simp [List.range_succ]
theorem range_getD (xs : List Nat) : (List.range xs.length).map (fun i => xs.getD i 0) = xs :=
  ext_getD (by simp) fun i hi => getD_map _ _ _ _ (by simpa using hi)

/-! ### The great end first -/
def be (l : List Nat) : Nat := l.foldl (fun a b => a * 256 + b) 0
theorem be_nil : be [] = 0 := rfl
theorem be_snoc (l : List Nat) (b : Nat) : be (l ++ [b]) = be l * 256 + b := by simp [be]
theorem be_take (xs : List Nat) (k : Nat) (h : k < xs.length) : be (xs.take (k + 1)) = be (xs.take k) * 256 + xs.getD k 0 := by rw [take_snocD xs k h, be_snoc]
theorem be_take_lt (l : List Nat) (h : AllLt 256 l) : ∀ k, k ≤ l.length → be (l.take k) < 256 ^ k
  | 0, _ => by simp [be]
  | k + 1, hk => by
    have h1 := be_take_lt l h k (by omega)
    have h2 := h.at (i := k) hk
    rw [be_take l k hk, Nat.pow_succ]
    omega
theorem be_lt (l : List Nat) (h : AllLt 256 l) : be l < 256 ^ l.length := by
  have := be_take_lt l h l.length (Nat.le_refl _)
  rwa [List.take_length] at this
def beB (n x : Nat) : List Nat := (List.range n).map fun i => x / 256 ^ (n - 1 - i) % 256
def leB (n x : Nat) : List Nat := (List.range n).map fun i => x / 256 ^ i % 256
theorem beB_length (n x : Nat) : (beB n x).length = n := by simp [beB]
theorem leB_length (n x : Nat) : (leB n x).length = n := by simp [leB]
theorem beB_lt (n x : Nat) : AllLt 256 (beB n x) := AllLt.map fun _ _ => Nat.mod_lt _ (by omega)
theorem leB_lt (n x : Nat) : AllLt 256 (leB n x) := AllLt.map fun _ _ => Nat.mod_lt _ (by omega)
theorem leB_getD (n x i : Nat) (h : i < n) : (leB n x).getD i 0 = x / 256 ^ i % 256 := getD_map _ _ _ _ h
theorem beB_getD (n x i : Nat) (h : i < n) : (beB n x).getD i 0 = x / 256 ^ (n - 1 - i) % 256 := getD_map _ _ _ _ h
theorem getD_reverse (xs : List Nat) (i : Nat) (h : i < xs.length) : xs.reverse.getD i 0 = xs.getD (xs.length - 1 - i) 0 := by
  rw [List.getD_eq_getElem?_getD, List.getD_eq_getElem?_getD, List.getElem?_reverse h]
theorem beB_reverse (n x : Nat) : (beB n x).reverse = leB n x := by
  refine ext_getD (by simp [beB, leB]) fun i hi => ?_
  have hi' : i < n := by simpa [beB] using hi
  rw [getD_reverse _ _ (by rw [beB_length]; exact hi'), beB_length, beB_getD _ _ _ (by omega), leB_getD _ _ _ hi', show n - 1 - (n - 1 - i) = i by omega]
theorem leB_reverse (n x : Nat) : (leB n x).reverse = beB n x := by rw [← beB_reverse, List.reverse_reverse]
theorem leB_succ (n x : Nat) : leB (n + 1) x = leB n x ++ [x / 256 ^ n % 256] := by simp [leB, List.range_succ]
theorem beB_take (n x k : Nat) : be ((beB n x).take k) = x % 256 ^ n / 256 ^ (n - k) ∨ n < k := by
  by_cases hk : n < k
  · exact .inr hk
  · left
    induction k with
    | zero => rw [List.take_zero, be_nil, Nat.sub_zero, Nat.div_eq_of_lt (Nat.mod_lt _ (Nat.pow_pos (by omega)))]
    | succ k ih =>
      have h := ih (by omega)
      rw [be_take _ _ (by rw [beB_length]; omega), h, beB_getD _ _ _ (by omega), show n - k = (n - (k + 1)) + 1 by omega, show n - 1 - k = n - (k + 1) by omega, Nat.pow_succ, ← Nat.div_div_eq_div_mul]
      generalize hm : n - (k + 1) = m
      have e : x / 256 ^ m % 256 = x % 256 ^ n / 256 ^ m % 256 := by
        rw [← Nat.mod_mul_right_div_self, ← Nat.mod_mul_right_div_self, ← Nat.pow_succ, Nat.mod_mod_of_dvd _ (Nat.pow_dvd_pow 256 (by omega))]
      rw [e]
      omega
theorem be_beB (n x : Nat) : be (beB n x) = x % 256 ^ n := by
  have h := (beB_take n x n).resolve_right (by omega)
  rw [List.take_of_length_le (by rw [beB_length]; omega), Nat.sub_self, Nat.pow_zero, Nat.div_one] at h
  exact h
/-- Bytes shifted in from the right: 'x<<8 | b', round at m bits. -/
theorem shl_or (x b m : Nat) (hb : b < 256) (hm : 8 ≤ m) : x * 256 % 2 ^ m ||| b = (x * 256 + b) % 2 ^ m := by
  obtain ⟨j, rfl⟩ : ∃ j, m = 8 + j := ⟨m - 8, by omega⟩
  have e : x * 256 % 2 ^ (8 + j) = (x % 2 ^ j) * 2 ^ 8 := by rw [Nat.pow_add, Nat.mul_comm x, show (256 : Nat) = 2 ^ 8 from rfl, Nat.mul_mod_mul_left, Nat.mul_comm]
  have e2 : (x * 256 + b) % 2 ^ (8 + j) = (x % 2 ^ j) * 2 ^ 8 + b := by
    have h1 : (x * 256 + b) % 2 ^ (8 + j) = x * 256 % 2 ^ (8 + j) + b := by
      have hd : 256 * 2 ^ j = 2 ^ (8 + j) := by rw [Nat.pow_add]
      have hq := Nat.div_add_mod (x * 256) (2 ^ (8 + j))
      have h2 : x * 256 % 2 ^ (8 + j) + b < 2 ^ (8 + j) := by
        have h3 := Nat.mod_lt x (Nat.two_pow_pos j)
        rw [e, ← hd, show (2 : Nat) ^ 8 = 256 from rfl]
        have h4 : x % 2 ^ j + 1 ≤ 2 ^ j := h3
        have := Nat.mul_le_mul_right 256 h4
        omega
      rw [Nat.add_mod, Nat.mod_eq_of_lt (show b < 2 ^ (8 + j) by omega), Nat.mod_eq_of_lt h2]
    rw [h1, e]
  rw [e, e2, Nat.mul_comm, ← Nat.two_pow_add_eq_or_of_lt (show b < 2 ^ 8 from hb)]

/-! ### Pieces of n -/
def chunk (n : Nat) (xs : List Nat) (k : Nat) : List Nat := (xs.drop (k * n)).take n
theorem chunk_length (n : Nat) (xs : List Nat) (k : Nat) (h : k < xs.length / n) : (chunk n xs k).length = n := by
  have h1 : (k + 1) * n ≤ xs.length := Nat.le_trans (Nat.mul_le_mul_right n h) (Nat.div_mul_le_self _ _)
  rw [Nat.add_mul] at h1
  simp [chunk]; omega
theorem chunk_lt {m n : Nat} {xs : List Nat} (h : AllLt m xs) (k : Nat) : AllLt m (chunk n xs k) := (h.drop _).take _
theorem chunk_getD (n : Nat) (xs : List Nat) (k i : Nat) (h : i < n) : (chunk n xs k).getD i 0 = xs.getD (k * n + i) 0 := by rw [chunk, getD_take _ _ _ h, getD_drop]
def wordsN (n : Nat) (f : List Nat → Nat) (xs : List Nat) : List Nat := (List.range (xs.length / n)).map fun k => f (chunk n xs k)
theorem wordsN_length (n : Nat) (f : List Nat → Nat) (xs : List Nat) : (wordsN n f xs).length = xs.length / n := by simp [wordsN]
def lit (l : List Nat) : Nat := be l.reverse
def big32 (xs : List Nat) : List Nat := wordsN 4 be xs
def big64 (xs : List Nat) : List Nat := wordsN 8 be xs
def little64 (xs : List Nat) : List Nat := wordsN 8 lit xs
theorem wordsN_lt {n : Nat} {f : List Nat → Nat} {xs : List Nat} {m : Nat} (h : ∀ l, AllLt 256 l → l.length = n → f l < m) (hx : AllLt 256 xs) : AllLt m (wordsN n f xs) :=
  AllLt.map fun k hk => h _ (chunk_lt hx k) (chunk_length _ _ _ (List.mem_range.1 hk))
theorem big32_lt {xs : List Nat} (h : AllLt 256 xs) : AllLt 4294967296 (big32 xs) := wordsN_lt (fun l hl h4 => by have := be_lt l hl; rw [h4] at this; exact this) h
theorem big64_lt {xs : List Nat} (h : AllLt 256 xs) : AllLt 18446744073709551616 (big64 xs) := wordsN_lt (fun l hl h4 => by have := be_lt l hl; rw [h4] at this; exact this) h
theorem lit_lt (l : List Nat) (h : AllLt 256 l) : lit l < 256 ^ l.length := by have := be_lt _ h.reverse; rwa [List.length_reverse] at this
theorem little64_lt {xs : List Nat} (h : AllLt 256 xs) : AllLt 18446744073709551616 (little64 xs) := wordsN_lt (fun l hl h4 => by have := lit_lt l hl; rw [h4] at this; exact this) h
def putBig (n : Nat) (l : List Nat) : List Nat := (l.map (beB n)).flatten
def putLittle (n : Nat) (l : List Nat) : List Nat := (l.map (leB n)).flatten
theorem flat_length {n : Nat} {f : Nat → List Nat} (hf : ∀ x, (f x).length = n) (l : List Nat) : (l.map f).flatten.length = l.length * n := by
  induction l with
  | nil => simp
  | cons x l ih => simp only [List.map_cons, List.flatten_cons, List.length_append, ih, hf, List.length_cons, Nat.add_mul]; omega
theorem flat_snoc (f : Nat → List Nat) (l : List Nat) (x : Nat) : ((l ++ [x]).map f).flatten = (l.map f).flatten ++ f x := by simp
theorem flat_chunk {n : Nat} {f : Nat → List Nat} (hf : ∀ x, (f x).length = n) : ∀ (l : List Nat) (k : Nat), k < l.length → chunk n (l.map f).flatten k = f (l.getD k 0)
  | x :: l, 0, _ => by
    unfold chunk
    simp only [Nat.zero_mul, List.drop_zero, List.map_cons, List.flatten_cons]
    have := hf x
    rw [← this, List.take_left]; rfl
  | x :: l, k + 1, h => by
    have ih := flat_chunk hf l k (by simpa using h)
    unfold chunk at ih ⊢
    rw [List.map_cons, List.flatten_cons, Nat.add_mul, Nat.one_mul, Nat.add_comm, ← List.drop_drop, show List.drop n (f x ++ (l.map f).flatten) = (l.map f).flatten by rw [← hf x, List.drop_left], ih]; rfl
theorem flat_lt {m : Nat} {f : Nat → List Nat} (hf : ∀ x, AllLt m (f x)) (l : List Nat) : AllLt m (l.map f).flatten := fun y hy => by
  obtain ⟨ys, h1, h2⟩ := List.mem_flatten.1 hy
  obtain ⟨x, _, rfl⟩ := List.mem_map.1 h1
  exact hf x y h2
theorem putBig_length (n : Nat) (l : List Nat) : (putBig n l).length = l.length * n := flat_length (beB_length n) l
theorem putLittle_length (n : Nat) (l : List Nat) : (putLittle n l).length = l.length * n := flat_length (leB_length n) l
theorem putBig_lt (n : Nat) (l : List Nat) : AllLt 256 (putBig n l) := flat_lt (beB_lt n) l
theorem putLittle_lt (n : Nat) (l : List Nat) : AllLt 256 (putLittle n l) := flat_lt (leB_lt n) l
theorem wordsN_flat {n : Nat} (hn : 0 < n) {f : Nat → List Nat} (hf : ∀ x, (f x).length = n) {g : List Nat → Nat} (l : List Nat) (hg : ∀ x ∈ l, g (f x) = x) : wordsN n g (l.map f).flatten = l := by
  have hlen : (wordsN n g (l.map f).flatten).length = l.length := by rw [wordsN_length, flat_length hf, Nat.mul_div_cancel _ hn]
  refine ext_getD hlen fun i hi => ?_
  rw [hlen] at hi
  unfold wordsN
  rw [getD_map _ _ _ _ (by rw [flat_length hf, Nat.mul_div_cancel _ hn]; exact hi), flat_chunk hf l i hi, hg]
  rw [List.getD_eq_getElem?_getD, List.getElem?_eq_getElem hi]; exact List.getElem_mem hi
theorem big64_put {l : List Nat} (h : AllLt 18446744073709551616 l) : big64 (putBig 8 l) = l :=
  wordsN_flat (by omega) (beB_length 8) l fun x hx => by rw [be_beB, Nat.mod_eq_of_lt (h x hx)]
theorem little64_put {l : List Nat} (h : AllLt 18446744073709551616 l) : little64 (putLittle 8 l) = l :=
  wordsN_flat (by omega) (leB_length 8) l fun x hx => by rw [lit, leB_reverse, be_beB, Nat.mod_eq_of_lt (h x hx)]
def xorL (xs ys : List Nat) : List Nat := (List.range (min xs.length ys.length)).map fun i => xs.getD i 0 ^^^ ys.getD i 0
theorem xorL_length (xs ys : List Nat) : (xorL xs ys).length = min xs.length ys.length := by simp [xorL]
theorem xorL_lt {xs ys : List Nat} (hx : AllLt 256 xs) (hy : AllLt 256 ys) : AllLt 256 (xorL xs ys) := AllLt.map fun i hi => by
  have h := List.mem_range.1 hi
  exact Nat.xor_lt_two_pow (n := 8) (hx.at (by omega)) (hy.at (by omega))
theorem xorL_getD (xs ys : List Nat) (i : Nat) (h : i < min xs.length ys.length) : (xorL xs ys).getD i 0 = xs.getD i 0 ^^^ ys.getD i 0 := getD_map _ _ _ _ h
theorem xorL_xorL (xs ys : List Nat) : xorL (xorL xs ys) ys = xs.take (min xs.length ys.length) := by
  refine ext_getD (by rw [xorL_length, xorL_length, List.length_take]; omega) fun i hi => ?_
  rw [xorL_length, xorL_length] at hi
  rw [xorL_getD _ _ _ (by rw [xorL_length]; exact hi), xorL_getD _ _ _ (by omega), getD_take _ _ _ (by omega), Nat.xor_assoc, Nat.xor_self, Nat.xor_zero]

/-! ### Values -/
def cellsOf (k : IntKind) (xs : List Nat) : List Value := xs.map fun x => .int k (x : Nat)
theorem cellsOf_length (k : IntKind) (xs : List Nat) : (cellsOf k xs).length = xs.length := by simp [cellsOf]
theorem cellsOf_append (k : IntKind) (xs ys : List Nat) : cellsOf k (xs ++ ys) = cellsOf k xs ++ cellsOf k ys := by simp [cellsOf]
theorem cellsOf_one (k : IntKind) (x : Nat) : cellsOf k [x] = [.int k (x : Nat)] := rfl
theorem cellsOf_at (k : IntKind) (xs : List Nat) (i : Nat) (h : i < xs.length) : (cellsOf k xs)[i]? = some (.int k (xs.getD i 0 : Nat)) := by
  simp [cellsOf, List.getD_eq_getElem?_getD, h]
theorem cellsOf_oneCell (k : IntKind) (xs : List Nat) : ∀ u ∈ cellsOf k xs, u.oneCell' = true := fun u hu => by
  obtain ⟨x, _, rfl⟩ := List.mem_map.1 hu; rfl
/-- The value v is a slice of the words xs, in a row of its own (at or beyond block base), or nil. -/
def Row (k : IntKind) (t : TypeId) (base : Nat) (w : World) (v : Value) (xs : List Nat) : Prop := w.ownsRow base t 1 v xs.length (cellsOf k xs)
theorem Row.nil (k : IntKind) (t : TypeId) (base : Nat) (w : World) : Row k t base w (.slice none 0 0) [] := World.ownsRow_nil w base t 1
theorem Row.below {k : IntKind} {t : TypeId} {base : Nat} {w w' : World} {v : Value} {xs : List Nat} {B : Nat} (h : Row k t base w v xs) (hb : Below B w w') (hB : w.heap.size ≤ B) : Row k t base w' v xs := by
  refine ⟨h.1, ?_⟩
  rcases h.2 with h' | ⟨g, cap, cur, rfl, h1, hg, rest⟩
  · exact .inl h'
  · exact .inr ⟨g, cap, cur, rfl, h1, (hb.block g (Nat.lt_of_lt_of_le (Array.getElem?_eq_some_iff.1 hg).1 hB)).trans hg, rest⟩
theorem Row.mono {k : IntKind} {t : TypeId} {b b' : Nat} {w : World} {v : Value} {xs : List Nat} (h : Row k t b w v xs) (hb : b' ≤ b) : Row k t b' w v xs := by
  refine ⟨h.1, ?_⟩
  rcases h.2 with h' | ⟨g, cap, cur, rfl, h1, rest⟩
  · exact .inl h'
  · exact .inr ⟨g, cap, cur, rfl, Nat.le_trans hb h1, rest⟩
theorem Row.words {k : IntKind} {t : TypeId} {base : Nat} {w : World} {v : Value} {xs : List Nat} (h : Row k t base w v xs) : ∃ A c, v = .slice A xs.length c ∧ Words k w A xs := by
  rcases h.2 with ⟨rfl, h0⟩ | ⟨g, cap, cur, rfl, _, hg, _⟩
  · exact ⟨none, 0, by rw [h0], fun i hi => by omega⟩
  · refine ⟨some ⟨g, 0, none⟩, cap, rfl, fun i hi => ⟨g, 0, rfl, ?_⟩⟩
    have := h.cells (g := g) rfl i _ (cellsOf_at k xs i hi)
    have hadd : (⟨g, 0, none⟩ : Addr).add i = ⟨g, 0 + i, none⟩ := by unfold Addr.add; split <;> simp_all
    rw [hadd] at this
    exact this
/-- What a call gives: a slice of the words ys, of its own; nothing that lay has changed. -/
def Gives (k : IntKind) (t : TypeId) (ys : List Nat) (w : World) (e : Ending) (w' : World) : Prop :=
  ∃ A c, e = .returned (.slice A ys.length c) ∧ Row k t w.heap.size w' (.slice A ys.length c) ys ∧ Words k w' A ys ∧ Below w.heap.size w w'
theorem Gives.mk {k : IntKind} {t : TypeId} {ys : List Nat} {w w' : World} {v : Value} (h : Row k t w.heap.size w' v ys) (hb : Below w.heap.size w w') : Gives k t ys w (.returned v) w' := by
  obtain ⟨A, c, rfl, hw⟩ := h.words
  exact ⟨A, c, rfl, h, hw, hb⟩
theorem _root_.Go.Proofs.YtpdbbeafleeajaaDoor.Words.block {k : IntKind} {w : World} {A : Option Addr} {xs : List Nat} (h : Words k w A xs) {i : Nat} (hi : i < xs.length) : ∃ b o, A = some ⟨b, o, none⟩ ∧ b < w.heap.size ∧ w.cell? ⟨b, o + i, none⟩ = some (.int k (xs.getD i 0 : Nat)) := by
  obtain ⟨b, o, e, hc⟩ := h i hi
  exact ⟨b, o, e, block_lt_of_cell hc, hc⟩
theorem Words.below {k : IntKind} {w w' : World} {A : Option Addr} {xs : List Nat} {B : Nat} (h : Words k w A xs) (hb : Below B w w') (hB : w.heap.size ≤ B) : Words k w' A xs := fun i hi => by
  obtain ⟨b, o, e, hc⟩ := h i hi
  exact ⟨b, o, e, (hb.cell (p := ⟨b, o + i, none⟩) (Nat.lt_of_lt_of_le (block_lt_of_cell hc) hB)).trans hc⟩
/-! ### make -/
def zeros (k : IntKind) (n : Nat) : Array Value := madeCells (Value.int k 0).cells n
theorem zeros_size (k : IntKind) (n : Nat) : (zeros k n).size = n := size_madeCells _ _
theorem zeros_at (k : IntKind) (n i : Nat) (h : i < n) : (zeros k n)[i]? = some (.int k 0) := by
  simp [zeros, madeCells, Value.cells, h, Nat.mod_one]
theorem make_at {P : Program} (w : World) {t e : TypeId} {i : TypeInfo} {k : IntKind} (ht : P.underlying t = some (.slice e)) (hi : P.info? e = some i) (hz : i.zero = some (.int k 0)) (hs : i.size = 1)
    (li ci : Int) (l c : Nat) (hl : li = l) (hc : ci = c) (hlc : l ≤ c) (hb : i.bytes * c ≤ 281474976710656) (h63 : c ≤ maxLen) :
    (Instr.makeSlice t (.int .i64 li) (.int .i64 ci)).run P w = .ok (.slice (some ⟨w.heap.size, 0, none⟩) l c) (w.alloc (.cells (zeros k c) e)) := by
  subst hl; subst hc
  have h := run_make (P := P) w t e i (.int k 0) ht hi hz .i64 .i64 (l : Int) (c : Int) (by omega) (by omega) (by rw [← Int.natCast_mul]; omega) (by unfold maxLen at h63; omega)
  rw [h, hs]
  simp [zeros]
theorem Row.made0 (k : IntKind) (e : TypeId) (base : Nat) (w : World) (c : Nat) (hb : base ≤ w.heap.size) (h63 : c ≤ maxLen) :
    Row k e base (w.alloc (.cells (zeros k c) e)) (.slice (some ⟨w.heap.size, 0, none⟩) 0 c) [] := World.ownsRow_made w _ c hb h63 (by rw [zeros_size]; omega)
/-! ### append -/
theorem Row.snoc {k : IntKind} {t : TypeId} {base : Nat} {w : World} {v : Value} {zs : List Nat} {y : Nat} {u : Int} (hu : u = (y : Int)) (h : w.ownsRow base t 1 v (zs.length + 1) (cellsOf k zs ++ [.int k u])) : Row k t base w v (zs ++ [y]) := by
  subst hu; unfold Row; rw [List.length_append, cellsOf_append]; exact h
theorem Row.append {k : IntKind} {t : TypeId} {base : Nat} {w : World} {v : Value} {zs ys : List Nat} (h : w.ownsRow base t 1 v (zs.length + ys.length) (cellsOf k zs ++ cellsOf k ys)) : Row k t base w v (zs ++ ys) := by
  unfold Row; rw [List.length_append, cellsOf_append]; exact h
theorem Row.grown {k : IntKind} {t : TypeId} {B : Nat} {w wr w1 : World} {v : Value} {zs : List Nat} {o : Obj} (h : Row k t B wr v zs) (hB : Below B w wr) (hs : B ≤ wr.heap.size) (hg : (wr.alloc o).grownBy w1 v.ownBlock) : Below B w w1 :=
  (hB.alloc hs _).grown hg (by simp; omega) fun g hg => (h.lt g hg).1
theorem Row.grown0 {k : IntKind} {t : TypeId} {B : Nat} {w wr w1 : World} {v : Value} {zs : List Nat} (h : Row k t B wr v zs) (hB : Below B w wr) (hs : B ≤ wr.heap.size) (hg : wr.grownBy w1 v.ownBlock) : Below B w w1 :=
  hB.grown hg hs fun g hg => (h.lt g hg).1
theorem one_at (w : World) (x : Value) (t : TypeId) : ∀ j u, [x][j]? = some u → (w.alloc (.cells #[x] t)).cell? ((⟨w.heap.size, 0, none⟩ : Addr).add j) = some u := by
  intro j u hj
  match j, hj with
  | 0, hj => simp at hj; subst hj; simp [Addr.add]
/-! ### Rows filled in place -/
/-- n words, the first k of them f's, the others noughts. -/
def upTo (kd : IntKind) (n : Nat) (f : Nat → Nat) (k : Nat) : Array Value := tab n fun i => .int kd (if i < k then f i else 0 : Nat)
theorem upTo_size (kd : IntKind) (n : Nat) (f : Nat → Nat) (k : Nat) : (upTo kd n f k).size = n := tab_size _ _
theorem upTo_zero (kd : IntKind) (n : Nat) (f : Nat → Nat) : zeros kd n = upTo kd n f 0 := by
  apply Array.ext_getElem?
  intro i
  by_cases h : i < n
  · rw [zeros_at _ _ _ h, upTo, tab_at _ _ _ h]; rfl
  · rw [Array.getElem?_eq_none (by rw [zeros_size]; omega), Array.getElem?_eq_none (by rw [upTo_size]; omega)]
theorem upTo_step (kd : IntKind) (n : Nat) (f : Nat → Nat) (k : Nat) (u : Int) (hu : u = (f k : Nat)) : (upTo kd n f k).setIfInBounds k (.int kd u) = upTo kd n f (k + 1) :=
  tab_set n _ _ k _ (by rw [if_pos (by omega), hu]) fun i _ hn => by by_cases h : i < k <;> simp [h, show i < k + 1 ↔ i < k by omega]
theorem upTo_at (kd : IntKind) (n : Nat) (f : Nat → Nat) (k i : Nat) (h : i < n) : (upTo kd n f k)[i]? = some (.int kd (if i < k then f i else 0 : Nat)) := tab_at _ _ _ h
theorem Row.upTo {kd : IntKind} {t : TypeId} {base : Nat} (w : World) {n : Nat} {f : Nat → Nat} (hb : base ≤ w.heap.size) (hn : n ≤ maxLen) :
    Row kd t base (w.alloc (.cells (upTo kd n f n) t)) (.slice (some ⟨w.heap.size, 0, none⟩) n n) ((List.range n).map f) := by
  refine ⟨by rw [cellsOf_length, Nat.mul_one], .inr ⟨w.heap.size, n, _, by rw [List.length_map, List.length_range], hb, heap_alloc_new w _, by simp, hn, by rw [upTo_size]; omega, ?_⟩⟩
  rw [List.length_map, List.length_range, Nat.mul_one, List.take_of_length_le (by rw [Array.length_toList, upTo_size]; omega)]
  apply List.ext_getElem?
  intro i
  by_cases h : i < n
  · rw [Array.getElem?_toList, upTo_at _ _ _ _ _ h, if_pos h, cellsOf_at _ _ _ (by simpa using h), getD_map _ _ _ _ h]
  · rw [List.getElem?_eq_none (by rw [Array.length_toList, upTo_size]; omega), List.getElem?_eq_none (by rw [cellsOf_length]; simp; omega)]
theorem words_new (w : World) (t : TypeId) (k : IntKind) (xs : List Nat) {c : Array Value} (h : c = (cellsOf k xs).toArray) : Words k (w.alloc (.cells c t)) (some ⟨w.heap.size, 0, none⟩) xs := fun i hi => by
  refine ⟨w.heap.size, 0, rfl, ?_⟩
  rw [cell_of_row _ _ _ c t (0, 0) (heap_alloc_new w _), h, Nat.zero_add, List.getElem?_toArray, cellsOf_at _ _ _ hi]
theorem row_cap {k : IntKind} {w : World} {a : Option Addr} {len cap : Nat} {zs : List Int} (h : IsRow k w a len cap zs) : len ≤ cap ∧ cap ≤ maxLen := by
  rcases h with ⟨_, h1, h2, _⟩ | ⟨_, _, h1, h2, _⟩
  · subst h1; subst h2; exact ⟨Nat.le_refl _, Nat.zero_le _⟩
  · exact ⟨h1, h2⟩
theorem Words.drewN {k : IntKind} {w : World} {A : Option Addr} {xs : List Nat} (h : Words k w A xs) (m : Nat) : Words k (w.drewN m) A xs := h
theorem addr_add (g o j : Nat) : (⟨g, o, none⟩ : Addr).add j = ⟨g, o + j, none⟩ := by unfold Addr.add; split <;> simp_all
theorem words_add {k : IntKind} {w : World} {g o : Nat} {ys : List Nat} (h : Words k w (some ⟨g, o, none⟩) ys) : ∀ j u, (cellsOf k ys)[j]? = some u → w.cell? ((⟨g, o, none⟩ : Addr).add j) = some u := fun j u hj => by
  have hlt : j < ys.length := by
    have := (List.getElem?_eq_some_iff.1 hj).1
    rwa [cellsOf_length] at this
  obtain ⟨b, o', e, hc⟩ := h j hlt
  cases e
  rw [addr_add, hc, ← hj, cellsOf_at _ _ _ hlt]
/-- Two slices lie in rows of their own. -/
def Sep (u v : Value) : Prop := ∀ g, u.ownBlock = some g → v.ownBlock ≠ some g
theorem Sep.symm {u v : Value} (h : Sep u v) : Sep v u := fun g h1 h2 => h g h2 h1
theorem Sep.nil (v : Value) : Sep (.slice none 0 0) v := fun g h => by cases h
theorem Sep.grown {u u' v : Value} {k : IntKind} {t : TypeId} {base : Nat} {W : World} {zs : List Nat} (h : Sep u v) (hv : Row k t base W v zs) (hat : u'.ownBlock = u.ownBlock ∨ u'.ownBlock = some W.heap.size) : Sep u' v := fun g h1 h2 => by
  rcases hat with e | e
  · exact h g (e ▸ h1) h2
  · rw [e] at h1; cases h1
    have := (World.ownsRow.lt hv _ h2).2
    omega
theorem Row.other {k : IntKind} {t : TypeId} {base : Nat} {W w1 : World} {u v : Value} {zs : List Nat} (hv : Row k t base W v zs) (h : Sep u v) (hg : W.grownBy w1 u.ownBlock) : Row k t base w1 v zs :=
  World.ownsRow.kept hv hg (by
    cases hb : v.ownBlock with
    | none => exact .inl rfl
    | some g => exact .inr fun e => h g e.symm hb)
end Go.Proofs.YtpdbbeafleeajaaDoor
