/- part -/
import Derived.Test.YtenffmfklmialaaGreatDoorStarr
import Derived.Test.YtenffmfklmialaaGreatDoorBna
import Derived.Deep.LoopGhost
import Derived.Laws.MakeOwn
import Derived.Maps.AppendAt
import Derived.WalkMore
import Derived.Laws.Cover3
set_option linter.unusedVariables false
set_option linter.unusedSimpArgs false
set_option maxHeartbeats 8000000
namespace Go.Proofs.YtenffmfklmialaaGreatDoor.L64
open Go.RowKit
section
def chN (x y z : Nat) : Nat := x &&& y ||| (18446744073709551615 ^^^ x) &&& z
theorem turn_by (n : Int) : ∃ k : Nat, (IntKind.u64.wrap n).tmod 64 = (k : Int) ∧ k < 64 ∧ turnBy 64 n = k := by
 refine ⟨turnBy 64 n, ?_, turnBy_lt n (by omega), rfl⟩
 rw [IntKind.wrap_u64, Int.tmod_eq_emod_of_nonneg (by omega)]
 unfold turnBy
 omega
set_option maxRecDepth 100000 in
theorem turn_any (x : Nat) (hx : x < 18446744073709551616) (n : Int) (w : World) :
 Calls Star.prog 224 #[.int .u64 (x : Int), .int .i64 n] w fun e w' => e = .returned (.int .u64 (rot 64 x (turnBy 64 n) : Nat)) ∧ w = w' := by
 obtain ⟨k, hk, hlt, e⟩ := turn_by n
 rw [e]; clear e
 go_enter Star.func224, Star.ntmps224
 go_wp2
 go_ret
 refine ⟨ret_int ?_, rfl⟩
 have a1 : x / 2 ^ k < 18446744073709551616 := Nat.lt_of_le_of_lt (Nat.div_le_self _ _) hx
 have a2 : x * 2 ^ (64 - k) % 18446744073709551616 < 18446744073709551616 := Nat.mod_lt _ (by omega)
 have a3 := u64_or_nat _ _ a1 a2
 simp only [Int.natCast_ediv, Int.natCast_pow, Int.natCast_emod, Int.natCast_mul, Int.cast_ofNat_Int] at a3
 rw [IntKind.wrap_u64, a3]; rfl
end
section
open Go.RowKit
end
section
def placeN (x y : Nat) : Nat := x % 5 + 5 * (y % 5)
theorem placeN_lt (x y : Nat) : placeN x y < 25 := by unfold placeN; omega
theorem place_any (x y : Nat) (hx : x < 1000) (hy : y < 1000) (w : World) : Calls Star.prog 196 #[.int .i64 (x : Int), .int .i64 (y : Int)] w fun e w' => e = .returned (.int .i64 (placeN x y : Nat)) ∧ w = w' := by
 go_enter Star.func196, Star.ntmps196
 go_wp2
 go_ret
 exact ⟨ret_int (by unfold placeN; omega), rfl⟩
def rcS : Nat → Nat
 | 0 => 1
 | n + 1 => if 256 ≤ 2 * rcS n then (2 * rcS n - 256) ^^^ 113 else 2 * rcS n
theorem rcS_lt : ∀ n, rcS n < 256
 | 0 => by decide
 | n + 1 => by
   have ih := rcS_lt n
   show (if 256 ≤ 2 * rcS n then (2 * rcS n - 256) ^^^ 113 else 2 * rcS n) < 256
   split
   · exact Nat.xor_lt_two_pow (n := 8) (by omega) (by omega)
   · omega
end
end Go.Proofs.YtenffmfklmialaaGreatDoor.L64

namespace Go.Proofs.YtenffmfklmialaaGreatDoor
open Go.RowKit
section
def AllLt (m : Nat) (xs : List Nat) : Prop := ∀ x ∈ xs, x < m
theorem AllLt.at {m : Nat} {xs : List Nat} (h : AllLt m xs) {i : Nat} (hi : i < xs.length) : xs.getD i 0 < m := h _ (by rw [List.getD_eq_getElem?_getD, List.getElem?_eq_getElem hi]; exact List.getElem_mem hi)
theorem AllLt.take {m : Nat} {xs : List Nat} (h : AllLt m xs) (k : Nat) : AllLt m (xs.take k) := fun x hx => h x (List.mem_of_mem_take hx)
theorem AllLt.drop {m : Nat} {xs : List Nat} (h : AllLt m xs) (k : Nat) : AllLt m (xs.drop k) := fun x hx => h x (List.mem_of_mem_drop hx)
theorem AllLt.reverse {m : Nat} {xs : List Nat} (h : AllLt m xs) : AllLt m xs.reverse := fun x hx => h x (List.mem_reverse.1 hx)
theorem AllLt.append {m : Nat} {xs ys : List Nat} (h : AllLt m xs) (k : AllLt m ys) : AllLt m (xs ++ ys) := fun x hx => (List.mem_append.1 hx).elim (h x) (k x)
theorem AllLt.mono {m n : Nat} {xs : List Nat} (h : AllLt m xs) (k : m ≤ n) : AllLt n xs := fun x hx => Nat.lt_of_lt_of_le (h x hx) k
theorem AllLt.map {m : Nat} {α : Type} {f : α → Nat} {l : List α} (h : ∀ a ∈ l, f a < m) : AllLt m (l.map f) := fun x hx => by
 obtain ⟨a, ha, rfl⟩ := List.mem_map.1 hx; exact h a ha
theorem take_snocD (xs : List Nat) (k : Nat) (h : k < xs.length) : xs.take (k + 1) = xs.take k ++ [xs.getD k 0] := by
 rw [List.take_succ_eq_append_getElem h]; simp [List.getD_eq_getElem?_getD, h]
theorem getD_drop (xs : List Nat) (i k : Nat) : (xs.drop i).getD k 0 = xs.getD (i + k) 0 := by
 rw [List.getD_eq_getElem?_getD, List.getD_eq_getElem?_getD, List.getElem?_drop]
theorem getD_take (xs : List Nat) (n k : Nat) (h : k < n) : (xs.take n).getD k 0 = xs.getD k 0 := by
 rw [List.getD_eq_getElem?_getD, List.getD_eq_getElem?_getD, List.getElem?_take_of_lt h]
theorem getD_map {α : Type} (f : Nat → α) (n k : Nat) (d : α) (h : k < n) : ((List.range n).map f).getD k d = f k := by
 rw [List.getD_eq_getElem?_getD, List.getElem?_map, List.getElem?_range h]; rfl
theorem ext_getD {xs ys : List Nat} (hl : xs.length = ys.length) (h : ∀ i, i < xs.length → xs.getD i 0 = ys.getD i 0) : xs = ys := by
 apply List.ext_getElem hl
 intro i h1 h2
 have := h i h1
 rw [List.getD_eq_getElem?_getD, List.getD_eq_getElem?_getD, List.getElem?_eq_getElem h1, List.getElem?_eq_getElem h2] at this
 exact this
theorem range_succ_map {α : Type} (f : Nat → α) (k : Nat) : (List.range (k + 1)).map f = (List.range k).map f ++ [f k] := by simp [List.range_succ]
theorem range_getD (xs : List Nat) : (List.range xs.length).map (fun i => xs.getD i 0) = xs :=
 ext_getD (by simp) fun i hi => getD_map _ _ _ _ (by simpa using hi)
def be (l : List Nat) : Nat := l.foldl (fun a b => a * 256 + b) 0
theorem be_snoc (l : List Nat) (b : Nat) : be (l ++ [b]) = be l * 256 + b := by simp [be]
theorem be_take (xs : List Nat) (k : Nat) (h : k < xs.length) : be (xs.take (k + 1)) = be (xs.take k) * 256 + xs.getD k 0 := by rw [take_snocD xs k h, be_snoc]
theorem be_take_lt (l : List Nat) (h : AllLt 256 l) : ∀ k, k ≤ l.length → be (l.take k) < 256 ^ k
 | 0, _ => by simp [be]
 | k + 1, hk => by
   have h1 := be_take_lt l h k (by omega)
   have h2 := h.at (i := k) hk
   rw [be_take l k hk, Nat.pow_succ]
   omega
theorem be_lt (l : List Nat) (h : AllLt 256 l) : be l < 256 ^ l.length := by
 have := be_take_lt l h l.length (Nat.le_refl _)
 rwa [List.take_length] at this
def beB (n x : Nat) : List Nat := (List.range n).map fun i => x / 256 ^ (n - 1 - i) % 256
def leB (n x : Nat) : List Nat := (List.range n).map fun i => x / 256 ^ i % 256
theorem beB_length (n x : Nat) : (beB n x).length = n := by simp [beB]
theorem leB_length (n x : Nat) : (leB n x).length = n := by simp [leB]
theorem beB_lt (n x : Nat) : AllLt 256 (beB n x) := AllLt.map fun _ _ => Nat.mod_lt _ (by omega)
theorem leB_getD (n x i : Nat) (h : i < n) : (leB n x).getD i 0 = x / 256 ^ i % 256 := getD_map _ _ _ _ h
theorem beB_getD (n x i : Nat) (h : i < n) : (beB n x).getD i 0 = x / 256 ^ (n - 1 - i) % 256 := getD_map _ _ _ _ h
theorem getD_reverse (xs : List Nat) (i : Nat) (h : i < xs.length) : xs.reverse.getD i 0 = xs.getD (xs.length - 1 - i) 0 := by
 rw [List.getD_eq_getElem?_getD, List.getD_eq_getElem?_getD, List.getElem?_reverse h]
theorem beB_reverse (n x : Nat) : (beB n x).reverse = leB n x := by
 refine ext_getD (by simp [beB, leB]) fun i hi => ?_
 have hi' : i < n := by simpa [beB] using hi
 rw [getD_reverse _ _ (by rw [beB_length]; exact hi'), beB_length, beB_getD _ _ _ (by omega), leB_getD _ _ _ hi', show n - 1 - (n - 1 - i) = i by omega]
theorem leB_succ (n x : Nat) : leB (n + 1) x = leB n x ++ [x / 256 ^ n % 256] := by simp [leB, List.range_succ]
theorem shl_or (x b m : Nat) (hb : b < 256) (hm : 8 ≤ m) : x * 256 % 2 ^ m ||| b = (x * 256 + b) % 2 ^ m := by
 obtain ⟨j, rfl⟩ : ∃ j, m = 8 + j := ⟨m - 8, by omega⟩
 have e : x * 256 % 2 ^ (8 + j) = (x % 2 ^ j) * 2 ^ 8 := by rw [Nat.pow_add, Nat.mul_comm x, show (256 : Nat) = 2 ^ 8 from rfl, Nat.mul_mod_mul_left, Nat.mul_comm]
 have e2 : (x * 256 + b) % 2 ^ (8 + j) = (x % 2 ^ j) * 2 ^ 8 + b := by
  have h1 : (x * 256 + b) % 2 ^ (8 + j) = x * 256 % 2 ^ (8 + j) + b := by
   have hd : 256 * 2 ^ j = 2 ^ (8 + j) := by rw [Nat.pow_add]
   have hq := Nat.div_add_mod (x * 256) (2 ^ (8 + j))
   have h2 : x * 256 % 2 ^ (8 + j) + b < 2 ^ (8 + j) := by
    have h3 := Nat.mod_lt x (Nat.two_pow_pos j)
    rw [e, ← hd, show (2 : Nat) ^ 8 = 256 from rfl]
    have h4 : x % 2 ^ j + 1 ≤ 2 ^ j := h3
    have := Nat.mul_le_mul_right 256 h4
    omega
   rw [Nat.add_mod, Nat.mod_eq_of_lt (show b < 2 ^ (8 + j) by omega), Nat.mod_eq_of_lt h2]
  rw [h1, e]
 rw [e, e2, Nat.mul_comm, ← Nat.two_pow_add_eq_or_of_lt (show b < 2 ^ 8 from hb)]
def chunk (n : Nat) (xs : List Nat) (k : Nat) : List Nat := (xs.drop (k * n)).take n
theorem chunk_length (n : Nat) (xs : List Nat) (k : Nat) (h : k < xs.length / n) : (chunk n xs k).length = n := by
 have h1 : (k + 1) * n ≤ xs.length := Nat.le_trans (Nat.mul_le_mul_right n h) (Nat.div_mul_le_self _ _)
 rw [Nat.add_mul] at h1
 simp [chunk]; omega
theorem chunk_lt {m n : Nat} {xs : List Nat} (h : AllLt m xs) (k : Nat) : AllLt m (chunk n xs k) := (h.drop _).take _
theorem chunk_getD (n : Nat) (xs : List Nat) (k i : Nat) (h : i < n) : (chunk n xs k).getD i 0 = xs.getD (k * n + i) 0 := by rw [chunk, getD_take _ _ _ h, getD_drop]
def wordsN (n : Nat) (f : List Nat → Nat) (xs : List Nat) : List Nat := (List.range (xs.length / n)).map fun k => f (chunk n xs k)
def lit (l : List Nat) : Nat := be l.reverse
def little64 (xs : List Nat) : List Nat := wordsN 8 lit xs
theorem lit_lt (l : List Nat) (h : AllLt 256 l) : lit l < 256 ^ l.length := by have := be_lt _ h.reverse; rwa [List.length_reverse] at this
def putBig (n : Nat) (l : List Nat) : List Nat := (l.map (beB n)).flatten
def putLittle (n : Nat) (l : List Nat) : List Nat := (l.map (leB n)).flatten
theorem flat_length {n : Nat} {f : Nat → List Nat} (hf : ∀ x, (f x).length = n) (l : List Nat) : (l.map f).flatten.length = l.length * n := by
 induction l with
 | nil => simp
 | cons x l ih => simp only [List.map_cons, List.flatten_cons, List.length_append, ih, hf, List.length_cons, Nat.add_mul]; omega
theorem flat_snoc (f : Nat → List Nat) (l : List Nat) (x : Nat) : ((l ++ [x]).map f).flatten = (l.map f).flatten ++ f x := by simp
theorem flat_chunk {n : Nat} {f : Nat → List Nat} (hf : ∀ x, (f x).length = n) : ∀ (l : List Nat) (k : Nat), k < l.length → chunk n (l.map f).flatten k = f (l.getD k 0)
 | x :: l, 0, _ => by
   unfold chunk
   simp only [Nat.zero_mul, List.drop_zero, List.map_cons, List.flatten_cons]
   have := hf x
   rw [← this, List.take_left]; rfl
 | x :: l, k + 1, h => by
   have ih := flat_chunk hf l k (by simpa using h)
   unfold chunk at ih ⊢
   rw [List.map_cons, List.flatten_cons, Nat.add_mul, Nat.one_mul, Nat.add_comm, ← List.drop_drop, show List.drop n (f x ++ (l.map f).flatten) = (l.map f).flatten by rw [← hf x, List.drop_left], ih]; rfl
theorem putBig_length (n : Nat) (l : List Nat) : (putBig n l).length = l.length * n := flat_length (beB_length n) l
theorem putLittle_length (n : Nat) (l : List Nat) : (putLittle n l).length = l.length * n := flat_length (leB_length n) l
def xorL (xs ys : List Nat) : List Nat := (List.range (min xs.length ys.length)).map fun i => xs.getD i 0 ^^^ ys.getD i 0
theorem xorL_length (xs ys : List Nat) : (xorL xs ys).length = min xs.length ys.length := by simp [xorL]
theorem xorL_getD (xs ys : List Nat) (i : Nat) (h : i < min xs.length ys.length) : (xorL xs ys).getD i 0 = xs.getD i 0 ^^^ ys.getD i 0 := getD_map _ _ _ _ h
def cellsOf (k : IntKind) (xs : List Nat) : List Value := xs.map fun x => .int k (x : Nat)
theorem cellsOf_length (k : IntKind) (xs : List Nat) : (cellsOf k xs).length = xs.length := by simp [cellsOf]
theorem cellsOf_append (k : IntKind) (xs ys : List Nat) : cellsOf k (xs ++ ys) = cellsOf k xs ++ cellsOf k ys := by simp [cellsOf]
theorem cellsOf_at (k : IntKind) (xs : List Nat) (i : Nat) (h : i < xs.length) : (cellsOf k xs)[i]? = some (.int k (xs.getD i 0 : Nat)) := by
 simp [cellsOf, List.getD_eq_getElem?_getD, h]
theorem cellsOf_oneCell (k : IntKind) (xs : List Nat) : ∀ u ∈ cellsOf k xs, u.oneCell' = true := fun u hu => by
 obtain ⟨x, _, rfl⟩ := List.mem_map.1 hu; rfl
def Row (k : IntKind) (t : TypeId) (base : Nat) (w : World) (v : Value) (xs : List Nat) : Prop := w.ownsRow base t 1 v xs.length (cellsOf k xs)
theorem Row.nil (k : IntKind) (t : TypeId) (base : Nat) (w : World) : Row k t base w (.slice none 0 0) [] := World.ownsRow_nil w base t 1
theorem Row.below {k : IntKind} {t : TypeId} {base : Nat} {w w' : World} {v : Value} {xs : List Nat} {B : Nat} (h : Row k t base w v xs) (hb : Below B w w') (hB : w.heap.size ≤ B) : Row k t base w' v xs := by
 refine ⟨h.1, ?_⟩
 rcases h.2 with h' | ⟨g, cap, cur, rfl, h1, hg, rest⟩
 · exact .inl h'
 · exact .inr ⟨g, cap, cur, rfl, h1, (hb.block g (Nat.lt_of_lt_of_le (Array.getElem?_eq_some_iff.1 hg).1 hB)).trans hg, rest⟩
theorem Row.mono {k : IntKind} {t : TypeId} {b b' : Nat} {w : World} {v : Value} {xs : List Nat} (h : Row k t b w v xs) (hb : b' ≤ b) : Row k t b' w v xs := by
 refine ⟨h.1, ?_⟩
 rcases h.2 with h' | ⟨g, cap, cur, rfl, h1, rest⟩
 · exact .inl h'
 · exact .inr ⟨g, cap, cur, rfl, Nat.le_trans hb h1, rest⟩
theorem Row.words {k : IntKind} {t : TypeId} {base : Nat} {w : World} {v : Value} {xs : List Nat} (h : Row k t base w v xs) : ∃ A c, v = .slice A xs.length c ∧ Words k w A xs := by
 rcases h.2 with ⟨rfl, h0⟩ | ⟨g, cap, cur, rfl, _, hg, _⟩
 · exact ⟨none, 0, by rw [h0], fun i hi => by omega⟩
 · refine ⟨some ⟨g, 0, none⟩, cap, rfl, fun i hi => ⟨g, 0, rfl, ?_⟩⟩
   have := h.cells (g := g) rfl i _ (cellsOf_at k xs i hi)
   have hadd : (⟨g, 0, none⟩ : Addr).add i = ⟨g, 0 + i, none⟩ := by unfold Addr.add; split <;> simp_all
   rw [hadd] at this
   exact this
def Gives (k : IntKind) (t : TypeId) (ys : List Nat) (w : World) (e : Ending) (w' : World) : Prop :=
 ∃ A c, e = .returned (.slice A ys.length c) ∧ Row k t w.heap.size w' (.slice A ys.length c) ys ∧ Words k w' A ys ∧ Below w.heap.size w w'
theorem Gives.mk {k : IntKind} {t : TypeId} {ys : List Nat} {w w' : World} {v : Value} (h : Row k t w.heap.size w' v ys) (hb : Below w.heap.size w w') : Gives k t ys w (.returned v) w' := by
 obtain ⟨A, c, rfl, hw⟩ := h.words
 exact ⟨A, c, rfl, h, hw, hb⟩
theorem _root_.Go.Proofs.YtenffmfklmialaaGreatDoor.Words.block {k : IntKind} {w : World} {A : Option Addr} {xs : List Nat} (h : Words k w A xs) {i : Nat} (hi : i < xs.length) : ∃ b o, A = some ⟨b, o, none⟩ ∧ b < w.heap.size ∧ w.cell? ⟨b, o + i, none⟩ = some (.int k (xs.getD i 0 : Nat)) := by
 obtain ⟨b, o, e, hc⟩ := h i hi
 exact ⟨b, o, e, block_lt_of_cell hc, hc⟩
theorem Words.below {k : IntKind} {w w' : World} {A : Option Addr} {xs : List Nat} {B : Nat} (h : Words k w A xs) (hb : Below B w w') (hB : w.heap.size ≤ B) : Words k w' A xs := fun i hi => by
 obtain ⟨b, o, e, hc⟩ := h i hi
 exact ⟨b, o, e, (hb.cell (p := ⟨b, o + i, none⟩) (Nat.lt_of_lt_of_le (block_lt_of_cell hc) hB)).trans hc⟩
def zeros (k : IntKind) (n : Nat) : Array Value := madeCells (Value.int k 0).cells n
theorem zeros_size (k : IntKind) (n : Nat) : (zeros k n).size = n := size_madeCells _ _
theorem zeros_at (k : IntKind) (n i : Nat) (h : i < n) : (zeros k n)[i]? = some (.int k 0) := by
 simp [zeros, madeCells, Value.cells, h, Nat.mod_one]
theorem make_at {P : Program} (w : World) {t e : TypeId} {i : TypeInfo} {k : IntKind} (ht : P.underlying t = some (.slice e)) (hi : P.info? e = some i) (hz : i.zero = some (.int k 0)) (hs : i.size = 1)
 (li ci : Int) (l c : Nat) (hl : li = l) (hc : ci = c) (hlc : l ≤ c) (hb : i.bytes * c ≤ 281474976710656) (h63 : c ≤ maxLen) :
 (Instr.makeSlice t (.int .i64 li) (.int .i64 ci)).run P w = .ok (.slice (some ⟨w.heap.size, 0, none⟩) l c) (w.alloc (.cells (zeros k c) e)) := by
 subst hl; subst hc
 have h := run_make (P := P) w t e i (.int k 0) ht hi hz .i64 .i64 (l : Int) (c : Int) (by omega) (by omega) (by rw [← Int.natCast_mul]; omega) (by unfold maxLen at h63; omega)
 rw [h, hs]
 simp [zeros]
theorem Row.made0 (k : IntKind) (e : TypeId) (base : Nat) (w : World) (c : Nat) (hb : base ≤ w.heap.size) (h63 : c ≤ maxLen) :
 Row k e base (w.alloc (.cells (zeros k c) e)) (.slice (some ⟨w.heap.size, 0, none⟩) 0 c) [] := World.ownsRow_made w _ c hb h63 (by rw [zeros_size]; omega)
theorem Row.snoc {k : IntKind} {t : TypeId} {base : Nat} {w : World} {v : Value} {zs : List Nat} {y : Nat} {u : Int} (hu : u = (y : Int)) (h : w.ownsRow base t 1 v (zs.length + 1) (cellsOf k zs ++ [.int k u])) : Row k t base w v (zs ++ [y]) := by
 subst hu; unfold Row; rw [List.length_append, cellsOf_append]; exact h
theorem Row.append {k : IntKind} {t : TypeId} {base : Nat} {w : World} {v : Value} {zs ys : List Nat} (h : w.ownsRow base t 1 v (zs.length + ys.length) (cellsOf k zs ++ cellsOf k ys)) : Row k t base w v (zs ++ ys) := by
 unfold Row; rw [List.length_append, cellsOf_append]; exact h
theorem Row.grown {k : IntKind} {t : TypeId} {B : Nat} {w wr w1 : World} {v : Value} {zs : List Nat} {o : Obj} (h : Row k t B wr v zs) (hB : Below B w wr) (hs : B ≤ wr.heap.size) (hg : (wr.alloc o).grownBy w1 v.ownBlock) : Below B w w1 :=
 (hB.alloc hs _).grown hg (by simp; omega) fun g hg => (h.lt g hg).1
theorem Row.grown0 {k : IntKind} {t : TypeId} {B : Nat} {w wr w1 : World} {v : Value} {zs : List Nat} (h : Row k t B wr v zs) (hB : Below B w wr) (hs : B ≤ wr.heap.size) (hg : wr.grownBy w1 v.ownBlock) : Below B w w1 :=
 hB.grown hg hs fun g hg => (h.lt g hg).1
theorem one_at (w : World) (x : Value) (t : TypeId) : ∀ j u, [x][j]? = some u → (w.alloc (.cells #[x] t)).cell? ((⟨w.heap.size, 0, none⟩ : Addr).add j) = some u := by
 intro j u hj
 match j, hj with
 | 0, hj => simp at hj; subst hj; simp [Addr.add]
def upTo (kd : IntKind) (n : Nat) (f : Nat → Nat) (k : Nat) : Array Value := tab n fun i => .int kd (if i < k then f i else 0 : Nat)
theorem upTo_size (kd : IntKind) (n : Nat) (f : Nat → Nat) (k : Nat) : (upTo kd n f k).size = n := tab_size _ _
theorem upTo_zero (kd : IntKind) (n : Nat) (f : Nat → Nat) : zeros kd n = upTo kd n f 0 := by
 apply Array.ext_getElem?
 intro i
 by_cases h : i < n
 · rw [zeros_at _ _ _ h, upTo, tab_at _ _ _ h]; rfl
 · rw [Array.getElem?_eq_none (by rw [zeros_size]; omega), Array.getElem?_eq_none (by rw [upTo_size]; omega)]
theorem upTo_step (kd : IntKind) (n : Nat) (f : Nat → Nat) (k : Nat) (u : Int) (hu : u = (f k : Nat)) : (upTo kd n f k).setIfInBounds k (.int kd u) = upTo kd n f (k + 1) :=
 tab_set n _ _ k _ (by rw [if_pos (by omega), hu]) fun i _ hn => by by_cases h : i < k <;> simp [h, show i < k + 1 ↔ i < k by omega]
theorem upTo_at (kd : IntKind) (n : Nat) (f : Nat → Nat) (k i : Nat) (h : i < n) : (upTo kd n f k)[i]? = some (.int kd (if i < k then f i else 0 : Nat)) := tab_at _ _ _ h
theorem Row.upTo {kd : IntKind} {t : TypeId} {base : Nat} (w : World) {n : Nat} {f : Nat → Nat} (hb : base ≤ w.heap.size) (hn : n ≤ maxLen) :
 Row kd t base (w.alloc (.cells (upTo kd n f n) t)) (.slice (some ⟨w.heap.size, 0, none⟩) n n) ((List.range n).map f) := by
 refine ⟨by rw [cellsOf_length, Nat.mul_one], .inr ⟨w.heap.size, n, _, by rw [List.length_map, List.length_range], hb, heap_alloc_new w _, by simp, hn, by rw [upTo_size]; omega, ?_⟩⟩
 rw [List.length_map, List.length_range, Nat.mul_one, List.take_of_length_le (by rw [Array.length_toList, upTo_size]; omega)]
 apply List.ext_getElem?
 intro i
 by_cases h : i < n
 · rw [Array.getElem?_toList, upTo_at _ _ _ _ _ h, if_pos h, cellsOf_at _ _ _ (by simpa using h), getD_map _ _ _ _ h]
 · rw [List.getElem?_eq_none (by rw [Array.length_toList, upTo_size]; omega), List.getElem?_eq_none (by rw [cellsOf_length]; simp; omega)]
theorem words_new (w : World) (t : TypeId) (k : IntKind) (xs : List Nat) {c : Array Value} (h : c = (cellsOf k xs).toArray) : Words k (w.alloc (.cells c t)) (some ⟨w.heap.size, 0, none⟩) xs := fun i hi => by
 refine ⟨w.heap.size, 0, rfl, ?_⟩
 rw [cell_of_row _ _ _ c t (0, 0) (heap_alloc_new w _), h, Nat.zero_add, List.getElem?_toArray, cellsOf_at _ _ _ hi]
theorem row_cap {k : IntKind} {w : World} {a : Option Addr} {len cap : Nat} {zs : List Int} (h : IsRow k w a len cap zs) : len ≤ cap ∧ cap ≤ maxLen := by
 rcases h with ⟨_, h1, h2, _⟩ | ⟨_, _, h1, h2, _⟩
 · subst h1; subst h2; exact ⟨Nat.le_refl _, Nat.zero_le _⟩
 · exact ⟨h1, h2⟩
theorem Words.drewN {k : IntKind} {w : World} {A : Option Addr} {xs : List Nat} (h : Words k w A xs) (m : Nat) : Words k (w.drewN m) A xs := h
theorem addr_add (g o j : Nat) : (⟨g, o, none⟩ : Addr).add j = ⟨g, o + j, none⟩ := by unfold Addr.add; split <;> simp_all
theorem words_add {k : IntKind} {w : World} {g o : Nat} {ys : List Nat} (h : Words k w (some ⟨g, o, none⟩) ys) : ∀ j u, (cellsOf k ys)[j]? = some u → w.cell? ((⟨g, o, none⟩ : Addr).add j) = some u := fun j u hj => by
 have hlt : j < ys.length := by
  have := (List.getElem?_eq_some_iff.1 hj).1
  rwa [cellsOf_length] at this
 obtain ⟨b, o', e, hc⟩ := h j hlt
 cases e
 rw [addr_add, hc, ← hj, cellsOf_at _ _ _ hlt]
def Sep (u v : Value) : Prop := ∀ g, u.ownBlock = some g → v.ownBlock ≠ some g
theorem Sep.symm {u v : Value} (h : Sep u v) : Sep v u := fun g h1 h2 => h g h2 h1
theorem Sep.nil (v : Value) : Sep (.slice none 0 0) v := fun g h => by cases h
end
section
def uTab (n : Nat) (f : Nat → Nat) : Array Value := tab n fun i => .int .u64 (f i : Nat)
theorem uTab_size (n : Nat) (f : Nat → Nat) : (uTab n f).size = n := tab_size _ _
theorem uTab_at (n : Nat) (f : Nat → Nat) (i : Nat) (h : i < n) : (uTab n f)[i]? = some (.int .u64 (f i : Nat)) := tab_at _ _ _ h
theorem uTab_getElem (n : Nat) (f : Nat → Nat) (i : Nat) (h : i < (uTab n f).size) : (uTab n f)[i] = .int .u64 (f i : Nat) := by
 have e := uTab_at n f i (by simpa [uTab_size] using h)
 rw [Array.getElem?_eq_getElem h] at e
 injection e
attribute [go_sem] uTab_size uTab_getElem
theorem uTab_congr {n : Nat} {f g : Nat → Nat} (h : ∀ i, i < n → f i = g i) : uTab n f = uTab n g := tab_congr fun i hi => by rw [h i hi]
theorem uTab_ones (n : Nat) (f : Nat → Nat) : OneCells (uTab n f) := tab_one _ _ fun _ => rfl
attribute [go_sem] uTab_ones
theorem uTab_cells (xs : List Nat) : (cellsOf .u64 xs).toArray = uTab xs.length fun i => xs.getD i 0 := by
 apply Array.ext_getElem?
 intro i
 by_cases h : i < xs.length
 · rw [List.getElem?_toArray, cellsOf_at _ _ _ h, uTab_at _ _ _ h]
 · rw [Array.getElem?_eq_none (by rw [List.size_toArray, cellsOf_length]; omega), Array.getElem?_eq_none (by rw [uTab_size]; omega)]
theorem RowOk.below {w w' : World} {n k B : Nat} (h : RowOk w n k) (hb : Below B w w') (hn : n < B) : RowOk w' n k := by
 obtain ⟨c, t, hg, hs⟩ := h
 exact ⟨c, t, (hb.block n hn).trans hg, hs⟩
theorem rowAt_setRow_at {w : World} {n k : Nat} {c : Array Value} (h : RowOk w n k) : rowAt (w.setRow n c) n = c := by
 obtain ⟨t, hg, hs⟩ := h.heap
 exact rowAt_of (setRow_heap _ _ _ _ _ _ hg)
theorem rowAt_setRow_past {w : World} {n m : Nat} {c : Array Value} (h : n ≠ m) : rowAt (w.setRow m c) n = rowAt w n := by unfold rowAt; rw [setRow_other _ _ _ _ h]
theorem row_ret {P : Program} {fn : Func} {T : TypeId} {d : TypeDesc} {Q : Ending → World → Prop} {a : Act} {w : World} {n p k : Nat} {c : Array Value} (hr : fn.results = #[.cell p T]) (hp : a.tmps.getD p undef = .pointer (some ⟨n, 0, none⟩)) (hn : RowOk w n k) (hv : rowAt w n = c)
 (hu : P.underlying T = some d) (hdd : (match d with | .struct _ | .array _ _ => true | _ => false) = true) (hi : (P.info? T).map (·.size) = some k) (hd : a.defers = []) (hQ : Q (.returned (.agg c)) w) : bodyPost P fn Q .ret a w := by
 obtain ⟨t, hg, hs⟩ := hn.heap
 rw [hv] at hg hs
 exact bodyPost_ret (results_cell_row hr _ _ n t _ (0, 0) _ hp hg hu hdd (by rw [hs, hi])) hd hQ
theorem load_row {P : Program} {w : World} {n : Nat} {T t : TypeId} {d : TypeDesc} {c : Array Value} {fr : Nat × Nat} (hg : w.heap[n]? = some (.cells c t fr))
 (hu : P.underlying T = some d) (hd : (match d with | .struct _ | .array _ _ => true | _ => false) = true) (hi : (P.info? T).map (·.size) = some c.size) :
 (loadRow T (.pointer (some ⟨n, 0, none⟩))).run P w = .ok (.agg c) w := by
 unfold loadRow
 simp only [Instr.loadAt, Instr.sureAddr, Sem.run_bind, Sem.run_pure, Result.andThen_ok]
 exact run_loadVar_row w n t T _ _ d hg hu hd hi
end
end Go.Proofs.YtenffmfklmialaaGreatDoor

namespace Go.Proofs.YtenffmfklmialaaGreatDoor.L64
open Go.RowKit
section
theorem load25u (x : Value) : Instr.loadAt 78 x = loadRow 78 x := rfl
theorem store25u (x y : Value) : Instr.storeAt 78 x y = storeRow 78 x y := rfl
theorem run_load25u {w : World} {n : Nat} (hg : RowOk w n 25) : (loadRow 78 (.pointer (some ⟨n, 0, none⟩))).run Star.prog w = .ok (.agg (rowAt w n)) w :=
 loadAt_row hg Star.underlying78 rfl (by kernel_rfl)
theorem run_store25u {w : World} {n : Nat} {c' : Array Value} (hg : RowOk w n 25) (hs' : c'.size = 25) (h1 : OneCells c') :
 (storeRow 78 (.pointer (some ⟨n, 0, none⟩)) (.agg c')).run Star.prog w = .ok () (w.setRow n c') := storeAt_row hg (by kernel_rfl) hs' h1
theorem zero25u (w : World) : (zeroValue 78).run Star.prog w = .ok (.agg (uTab 25 fun _ => 0)) w := by kernel_rfl
attribute [go_sem ↓] load25u store25u zero25u
attribute [go_sem] run_load25u run_store25u
def bTab (n : Nat) (g : Nat → Nat) : Array Value := tab n fun i => .int .u8 (g i : Nat)
theorem bTab_size (n : Nat) (g : Nat → Nat) : (bTab n g).size = n := tab_size _ _
theorem bTab_at (n : Nat) (g : Nat → Nat) (i : Nat) (h : i < n) : (bTab n g)[i]? = some (.int .u8 (g i : Nat)) := tab_at _ _ _ h
theorem bTab_ones (n : Nat) (g : Nat → Nat) : OneCells (bTab n g) := tab_one _ _ fun _ => rfl
theorem bTab_list (n : Nat) (g : Nat → Nat) : bTab n g = (cellsOf .u8 ((List.range n).map g)).toArray := by unfold bTab tab cellsOf; rw [List.map_map]; rfl
theorem bTab_cells (xs : List Nat) : (cellsOf .u8 xs).toArray = bTab xs.length fun i => xs.getD i 0 := by rw [bTab_list, range_getD]
theorem uTab_list (n : Nat) (g : Nat → Nat) : uTab n g = (cellsOf .u64 ((List.range n).map g)).toArray := by unfold uTab tab cellsOf; rw [List.map_map]; rfl
attribute [go_sem] bTab_size bTab_ones
theorem words_range {k : IntKind} {w : World} {b o : Nat} {xs : List Nat} (h : Words k w (some ⟨b, o, none⟩) xs) : w.rangeAt b o (cellsOf k xs) := fun j v hj => by
 have := words_add h j v hj
 rwa [addr_add] at this
theorem load200 (x : Value) : Instr.loadAt 180 x = loadRow 180 x := rfl
theorem store200 (x y : Value) : Instr.storeAt 180 x y = storeRow 180 x y := rfl
theorem run_load200 {w : World} {n : Nat} (hg : RowOk w n 200) : (loadRow 180 (.pointer (some ⟨n, 0, none⟩))).run Star.prog w = .ok (.agg (rowAt w n)) w :=
 loadAt_row hg Star.underlying180 rfl (by kernel_rfl)
theorem run_store200 {w : World} {n : Nat} {c' : Array Value} (hg : RowOk w n 200) (hs' : c'.size = 200) (h1 : OneCells c') :
 (storeRow 180 (.pointer (some ⟨n, 0, none⟩)) (.agg c')).run Star.prog w = .ok () (w.setRow n c') := storeAt_row hg (by kernel_rfl) hs' h1
theorem zero200 (w : World) : (zeroValue 180).run Star.prog w = .ok (.agg (bTab 200 fun _ => 0)) w := by kernel_rfl
attribute [go_sem ↓] load200 store200 zero200
attribute [go_sem] run_load200 run_store200
theorem run_load200m {w : World} {b o : Nat} {xs : List Nat} (h : Words .u8 w (some ⟨b, o, none⟩) xs) (hl : xs.length = 200) :
 (loadRow 180 (.pointer (some ⟨b, o, none⟩))).run Star.prog w = .ok (.agg (bTab 200 fun i => xs.getD i 0)) w := by
 rw [show bTab 200 (fun i => xs.getD i 0) = (cellsOf .u8 xs).toArray by rw [bTab_cells, hl]]
 exact run_loadAt_mid w b o 180 (cellsOf .u8 xs) _ (words_range h) Star.underlying180 rfl (by rw [cellsOf_length, hl]; kernel_rfl)
theorem run_array200 {w : World} {a : Option Addr} {len cap : Nat} (hn : 200 ≤ len) : (Instr.arrayAt 180 (.slice a len cap)).run Star.prog w = .ok (.pointer a) w :=
 run_arrayAt w 180 5 200 a len cap Star.underlying180 hn
attribute [go_sem] run_array200
end
section
theorem load25i (x : Value) : Instr.loadAt 203 x = loadRow 203 x := rfl
theorem store25i (x y : Value) : Instr.storeAt 203 x y = storeRow 203 x y := rfl
theorem run_load25i {w : World} {n : Nat} (hg : RowOk w n 25) : (loadRow 203 (.pointer (some ⟨n, 0, none⟩))).run Star.prog w = .ok (.agg (rowAt w n)) w :=
 loadAt_row hg Star.underlying203 rfl (by kernel_rfl)
theorem run_store25i {w : World} {n : Nat} {c' : Array Value} (hg : RowOk w n 25) (hs' : c'.size = 25) (h1 : OneCells c') :
 (storeRow 203 (.pointer (some ⟨n, 0, none⟩)) (.agg c')).run Star.prog w = .ok () (w.setRow n c') := storeAt_row hg (by kernel_rfl) hs' h1
theorem zero25i (w : World) : (zeroValue 203).run Star.prog w = .ok (.agg (arr 25 fun _ => 0)) w := by kernel_rfl
attribute [go_sem ↓] load25i store25i zero25i
attribute [go_sem] run_load25i run_store25i
theorem load5u (x : Value) : Instr.loadAt 205 x = loadRow 205 x := rfl
theorem store5u (x y : Value) : Instr.storeAt 205 x y = storeRow 205 x y := rfl
theorem run_load5u {w : World} {n : Nat} (hg : RowOk w n 5) : (loadRow 205 (.pointer (some ⟨n, 0, none⟩))).run Star.prog w = .ok (.agg (rowAt w n)) w :=
 loadAt_row hg Star.underlying205 rfl (by kernel_rfl)
theorem run_store5u {w : World} {n : Nat} {c' : Array Value} (hg : RowOk w n 5) (hs' : c'.size = 5) (h1 : OneCells c') :
 (storeRow 205 (.pointer (some ⟨n, 0, none⟩)) (.agg c')).run Star.prog w = .ok () (w.setRow n c') := storeAt_row hg (by kernel_rfl) hs' h1
theorem zero5u (w : World) : (zeroValue 205).run Star.prog w = .ok (.agg (uTab 5 fun _ => 0)) w := by kernel_rfl
attribute [go_sem ↓] load5u store5u zero5u
attribute [go_sem] run_load5u run_store5u
def piN (f : Nat → Nat) (i : Nat) : Nat := f ((i % 5 + 3 * (i / 5)) % 5 + 5 * (i % 5))
def piUp (f : Nat → Nat) (x y i : Nat) : Nat := if i % 5 < x ∨ (i % 5 = x ∧ i / 5 < y) then piN f i else 0
theorem piUp_zero (f : Nat → Nat) : uTab 25 (piUp f 0 0) = uTab 25 fun _ => 0 := uTab_congr fun i hi => if_neg (by omega)
theorem piUp_full (f : Nat → Nat) : uTab 25 (piUp f 5 0) = uTab 25 (piN f) := uTab_congr fun i hi => if_pos (by omega)
theorem piUp_next (f : Nat → Nat) (x : Nat) : uTab 25 (piUp f x 5) = uTab 25 (piUp f (x + 1) 0) := uTab_congr fun i hi => by
 unfold piUp
 by_cases h : i % 5 < x ∨ (i % 5 = x ∧ i / 5 < 5)
 · rw [if_pos h, if_pos (by omega)]
 · rw [if_neg h, if_neg (by omega)]
theorem piUp_step (f : Nat → Nat) (x y : Nat) (hx : x < 5) (hy : y < 5) : (uTab 25 (piUp f x y)).setIfInBounds (placeN x y) (.int .u64 (f (placeN ((x + 3 * y) % 5) x) : Nat)) = uTab 25 (piUp f x (y + 1)) :=
 tab_set 25 _ _ _ _ (by
  unfold piUp placeN
  rw [if_pos (by omega)]
  unfold piN
  rw [show ((x % 5 + 5 * (y % 5)) % 5 + 3 * ((x % 5 + 5 * (y % 5)) / 5)) % 5 + 5 * ((x % 5 + 5 * (y % 5)) % 5) = (x + 3 * y) % 5 % 5 + 5 * (x % 5) by omega]) fun i hi hn => by
   unfold placeN at hn
   show Value.int .u64 ((piUp f x (y + 1) i : Nat) : Int) = Value.int .u64 ((piUp f x y i : Nat) : Int)
   unfold piUp
   by_cases h : i % 5 < x ∨ (i % 5 = x ∧ i / 5 < y)
   · rw [if_pos h, if_pos (by omega)]
   · rw [if_neg h, if_neg (by omega)]
set_option maxRecDepth 100000 in
theorem refPi_any (f : Nat → Nat) (w : World) : Calls Star.prog 178 #[.agg (uTab 25 f)] w fun e w' => e = .returned (.agg (uTab 25 (piN f))) ∧ Below w.heap.size w w' := by
 go_enter Star.func178, Star.ntmps178
 go_wp2
 go_loopg [4, 5] 5 (fun g xv yv wr => ∃ x : Nat, x + g = 5 ∧ xv = .int .i64 (x : Nat) ∧ wr = ((w.alloc (.cells (uTab 25 f) 78)).alloc (.cells (uTab 25 fun _ => 0) 78)).alloc (.cells (uTab 25 (piUp f x 0)) 78))
 case atStart => exact ⟨0, by omega, rfl, by rw [piUp_zero]⟩
 case round =>
  obtain ⟨x, hx, rfl, rfl⟩ := hrel
  by_cases hx5 : x < 5
  · obtain ⟨g, rfl⟩ : ∃ g, gk = g + 1 := ⟨gk - 1, by omega⟩
    go_wp2
    rw [show decide ((x : Int) < 5) = true from decide_eq_true (by omega)]
    go_loopg [5] 5 (fun g yv wr => ∃ y : Nat, y + g = 5 ∧ yv = .int .i64 (y : Nat) ∧ wr = ((w.alloc (.cells (uTab 25 f) 78)).alloc (.cells (uTab 25 fun _ => 0) 78)).alloc (.cells (uTab 25 (piUp f x y)) 78))
    case atStart => exact ⟨0, by omega, rfl, rfl⟩
    case round =>
     obtain ⟨y, hy, rfl, rfl⟩ := hrel
     by_cases hy5 : y < 5
     · obtain ⟨g2, rfl⟩ : ∃ g2, gk = g2 + 1 := ⟨gk - 1, by omega⟩
       obtain ⟨t, ht⟩ : ∃ t, t = (x + 3 * y) % 5 := ⟨_, rfl⟩
       have ht2 : ((x : Int) + 3 * (y : Int)) % 5 = (t : Int) := by omega
       have HS := Lib.hid (piUp_step f x y hx5 hy5)
       rw [← ht] at HS
       have HP := Lib.hid (fun W => place_any x y (by omega) (by omega) W)
       have HQ := Lib.hid (fun W => place_any t x (by omega) (by omega) W)
       have p1 := placeN_lt x y
       have p2 := placeN_lt t x
       clear ht
       have hc2 : (uTab 25 f)[placeN t x]? = some (.int .u64 _) := uTab_at 25 f (placeN t x) p2
       have hc1 : (uTab 25 (piUp f x y))[placeN x y]? = some (.int .u64 _) := uTab_at 25 (piUp f x y) (placeN x y) p1
       generalize placeN x y = p at *
       generalize placeN t x = q at *
       go_wp2_with fail
       refine (HP.out _).mono ?_
       rintro e w5 ⟨rfl, rfl⟩
       go_wp2_with fail
       refine (HQ.out _).mono ?_
       rintro e w6 ⟨rfl, rfl⟩
       go_wp2
       go_roundg g2
       case measure => omega
       case rel => exact ⟨y + 1, by omega, by go_num, by rw [HS.out]⟩
     · obtain rfl : y = 5 := by omega
       rw [piUp_next]
       go_wp2
       go_roundg g
       case measure => omega
       case rel => exact ⟨x + 1, by omega, by go_num, rfl⟩
  · obtain rfl : x = 5 := by omega
    rw [piUp_full]
    go_wp2
    refine row_ret (P := Star.prog) (n := w.heap.size + 1) (p := 2) (k := 25) (c := uTab 25 (piN f)) rfl rfl (by simp [go_sem]) (by simp [go_sem]) Star.underlying78 rfl (by kernel_rfl) rfl ⟨rfl, (((Below.refl _ w).alloc (Nat.le_refl _) _).alloc (by simp) _).alloc (by simp; omega) _⟩
def offX : Nat → Nat × Nat
 | 0 => (1, 0)
 | t + 1 => ((offX t).2, (2 * (offX t).1 + 3 * (offX t).2) % 5)
theorem offX_lt : ∀ t, (offX t).1 < 5 ∧ (offX t).2 < 5
 | 0 => by decide
 | t + 1 => ⟨(offX_lt t).2, by show (2 * (offX t).1 + 3 * (offX t).2) % 5 < 5; omega⟩
def offUp : Nat → Nat → Int
 | 0, _ => 0
 | t + 1, i => if i = placeN (offX t).1 (offX t).2 then (((t + 1) * (t + 2) / 2 % 64 : Nat) : Int) else offUp t i
def offL : List Nat := [0, 1, 62, 28, 27, 36, 44, 6, 55, 20, 3, 10, 43, 25, 39, 41, 45, 15, 21, 8, 18, 2, 61, 56, 14]
def offN (i : Nat) : Nat := offL.getD i 0
theorem offN_lt (i : Nat) : offN i < 64 := by
 rcases Nat.lt_or_ge i 25 with h | h
 · exact (by decide : ∀ i, i < 25 → offN i < 64) i h
 · unfold offN; rw [List.getD_eq_getElem?_getD, List.getElem?_eq_none h]; decide
theorem offUp_full : arr 25 (offUp 24) = arr 25 fun i => (offN i : Nat) := arr_congr fun i hi => (by decide +kernel : ∀ i, i < 25 → offUp 24 i = (offN i : Nat)) i hi
theorem offUp_step (t : Nat) : (arr 25 (offUp t)).setIfInBounds (placeN (offX t).1 (offX t).2) (.int .i64 (((t + 1) * (t + 2) / 2 % 64 : Nat) : Int)) = arr 25 (offUp (t + 1)) :=
 arr_set 25 _ _ _ _ (if_pos rfl) fun i _ hn => if_neg hn
set_option maxRecDepth 100000 in
theorem refOffsets_any (w : World) : Calls Star.prog 179 #[] w fun e w' => e = .returned (.agg (arr 25 fun i => (offN i : Nat))) ∧ Below w.heap.size w w' := by
 go_enter Star.func179, Star.ntmps179
 go_wp2
 go_loopg [2, 3, 4] 24 (fun g xv yv tv wr => ∃ t : Nat, t + g = 24 ∧ tv = .int .i64 (t : Nat) ∧ xv = .int .i64 ((offX t).1 : Nat) ∧ yv = .int .i64 ((offX t).2 : Nat) ∧ wr = (w.alloc (.cells (arr 25 fun _ => 0) 203)).alloc (.cells (arr 25 (offUp t)) 203))
 case atStart => exact ⟨0, by omega, rfl, rfl, rfl, rfl⟩
 case round =>
  obtain ⟨t, ht, rfl, rfl, rfl, rfl⟩ := hrel
  by_cases h24 : t < 24
  · obtain ⟨g, rfl⟩ : ∃ g, gk = g + 1 := ⟨gk - 1, by omega⟩
    have HS := Lib.hid (offUp_step t)
    have hl := offX_lt t
    have HX : Hid ((offX (t + 1)).1 = (offX t).2) := rfl
    have HY : Hid ((offX (t + 1)).2 = (2 * (offX t).1 + 3 * (offX t).2) % 5) := rfl
    have HP := Lib.hid (fun W => place_any (offX t).1 (offX t).2 (by omega) (by omega) W)
    have p1 := placeN_lt (offX t).1 (offX t).2
    have hc1 : (arr 25 (offUp t))[placeN (offX t).1 (offX t).2]? = some (.int .i64 _) := arr_at 25 (offUp t) _ p1
    generalize placeN (offX t).1 (offX t).2 = p at *
    generalize (offX t).1 = x at *
    generalize (offX t).2 = y at *
    obtain ⟨hx, hy⟩ := hl
    obtain ⟨m, hm⟩ : ∃ m, m = (t + 1) * (t + 2) := ⟨_, rfl⟩
    have hmi : ((t : Int) + 1) * ((t : Int) + 2) = (m : Int) := by rw [hm]; simp
    have hmb : m ≤ 24 * 25 := by rw [hm]; exact Nat.mul_le_mul (by omega) (by omega)
    rw [← hm] at HS
    clear hm
    go_wp2_with fail
    refine (HP.out _).mono ?_
    rintro e w5 ⟨rfl, rfl⟩
    go_wp2
    go_roundg g
    case measure => omega
    case rel => exact ⟨t + 1, by omega, by go_num, by rw [HX.out], by rw [HY.out]; go_num, by rw [← HS.out]; go_num⟩
  · obtain rfl : t = 24 := by omega
    rw [offUp_full]
    go_wp2
    refine row_ret (P := Star.prog) (n := w.heap.size) (p := 0) (k := 25) (c := arr 25 fun i => (offN i : Nat)) rfl rfl (by simp [go_sem]) (by simp [go_sem]) Star.underlying203 rfl (by kernel_rfl) rfl ⟨rfl, (((Below.refl _ w).alloc (Nat.le_refl _) _).alloc (by simp) _)⟩
def constL : List Nat := [0x0000000000000001, 0x0000000000008082, 0x800000000000808A, 0x8000000080008000, 0x000000000000808B, 0x0000000080000001, 0x8000000080008081, 0x8000000000008009,
 0x000000000000008A, 0x0000000000000088, 0x0000000080008009, 0x000000008000000A, 0x000000008000808B, 0x800000000000008B, 0x8000000000008089, 0x8000000000008003,
 0x8000000000008002, 0x8000000000000080, 0x000000000000800A, 0x800000008000000A, 0x8000000080008081, 0x8000000000008080, 0x0000000080000001, 0x8000000080008008]
def constN (r : Nat) : Nat := constL.getD r 0
theorem constN_lt (r : Nat) : constN r < 18446744073709551616 := by
 rcases Nat.lt_or_ge r 24 with h | h
 · exact (by decide +kernel : ∀ r, r < 24 → constN r < 18446744073709551616) r h
 · unfold constN; rw [List.getD_eq_getElem?_getD, List.getElem?_eq_none h]; decide
def cP (r : Nat) : Nat → Nat
 | 0 => 0
 | k + 1 => cP r k ||| (rcS (7 * r + k) % 2) * 2 ^ (2 ^ k - 1)
theorem cP_full (r : Nat) (hr : r < 24) : cP r 7 = constN r := (by decide +kernel : ∀ r, r < 24 → cP r 7 = constN r) r hr
theorem cP_lt (r : Nat) : ∀ k, k ≤ 7 → cP r k < 18446744073709551616
 | 0, _ => by show (0 : Nat) < _; decide
 | k + 1, h => by
   have ih := cP_lt r k (by omega)
   have h2 : rcS (7 * r + k) % 2 < 2 := Nat.mod_lt _ (by omega)
   have h3 : (2 : Nat) ^ k ≤ 2 ^ 6 := Nat.pow_le_pow_right (by omega) (by omega)
   have h4 : (2 : Nat) ^ (2 ^ k - 1) ≤ 2 ^ 63 := Nat.pow_le_pow_right (by omega) (by omega)
   have h5 : rcS (7 * r + k) % 2 * 2 ^ (2 ^ k - 1) ≤ 1 * 2 ^ 63 := Nat.mul_le_mul (by omega) h4
   exact or64 ih (by omega)
end
end Go.Proofs.YtenffmfklmialaaGreatDoor.L64
