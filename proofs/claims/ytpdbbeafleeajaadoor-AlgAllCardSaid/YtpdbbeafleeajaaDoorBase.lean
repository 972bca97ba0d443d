/- Plain facts: tables of cells, bits of natural numbers. No program is named here. -/
import Derived.WalkKit
import Derived.WalkSpells
import Derived.WalkLawsBesides
import Derived.Handy
import Derived.Deep.MidRow
import Derived.Laws.CopyOwn
import Derived.Lib.Hide
import Derived.OpenShut
import Derived.Deep.QuietTactic
import Derived.BigQuiet
import Derived.StillTailTactics
namespace Go.Proofs.YtpdbbeafleeajaaDoor
open Go.RowKit
set_option linter.unusedVariables false

/-! ### Tables of cells -/
def tab (n : Nat) (f : Nat → Value) : Array Value := ((List.range n).map f).toArray
def arr (n : Nat) (f : Nat → Int) : Array Value := tab n fun i => .int .i64 (f i)
theorem tab_size (n : Nat) (f : Nat → Value) : (tab n f).size = n := by simp [tab]
theorem arr_size (n : Nat) (f : Nat → Int) : (arr n f).size = n := tab_size _ _
theorem tab_at (n : Nat) (f : Nat → Value) (i : Nat) (h : i < n) : (tab n f)[i]? = some (f i) := by simp [tab, h]
theorem arr_at (n : Nat) (f : Nat → Int) (i : Nat) (h : i < n) : (arr n f)[i]? = some (.int .i64 (f i)) := tab_at _ _ _ h
theorem tab_congr {n : Nat} {f g : Nat → Value} (h : ∀ i, i < n → f i = g i) : tab n f = tab n g := by
  unfold tab
  congr 1
  exact List.map_congr_left fun i hi => h i (List.mem_range.1 hi)
theorem arr_congr {n : Nat} {f g : Nat → Int} (h : ∀ i, i < n → f i = g i) : arr n f = arr n g := tab_congr fun i hi => by rw [h i hi]
theorem tab_set (n : Nat) (f g : Nat → Value) (k : Nat) (v : Value) (hk : g k = v) (ho : ∀ i, i < n → i ≠ k → g i = f i) : (tab n f).setIfInBounds k v = tab n g := by
  unfold tab
  rw [List.setIfInBounds_toArray]
  congr 1
  apply List.ext_getElem?
  intro i
  rw [List.getElem?_set]
  by_cases hik : k = i
  · subst hik; by_cases h : k < n <;> simp [h, hk]
  · by_cases hi : i < n
    · simp [hik, hi, ho i hi (fun e => hik e.symm)]
    · simp [hik, hi]
theorem arr_set (n : Nat) (f g : Nat → Int) (k : Nat) (v : Int) (hk : g k = v) (ho : ∀ i, i < n → i ≠ k → g i = f i) : (arr n f).setIfInBounds k (.int .i64 v) = arr n g :=
  tab_set n _ _ k _ (by rw [hk]) fun i hi hn => by rw [ho i hi hn]
theorem tab_one (n : Nat) (f : Nat → Value) (h : ∀ i, (f i).oneCell' = true) : (tab n f).all (·.oneCell') = true := by
  unfold tab; rw [List.all_toArray, List.all_map]; simp [h]
theorem arr_one (n : Nat) (f : Nat → Int) : (arr n f).all (·.oneCell') = true := tab_one _ _ fun _ => rfl
/-- Each of these values is one cell. -/
def OneCells (c : Array Value) : Prop := c.all (·.oneCell') = true
theorem arr_ones (n : Nat) (f : Nat → Int) : OneCells (arr n f) := arr_one n f

/-! ### Bits -/
def shr (x k : Nat) : Nat := x / 2 ^ k
def bitI (x k : Nat) : Int := ((shr x k : Nat) : Int) % 2
theorem shr_zero (x : Nat) : shr x 0 = x := by simp [shr]
theorem shr_succ (x k : Nat) : shr x (k + 1) = shr x k / 2 := by unfold shr; rw [Nat.div_div_eq_div_mul, Nat.pow_succ]
theorem shr_le (x k : Nat) : shr x k ≤ x := Nat.div_le_self _ _
theorem shr_shr (x a b : Nat) : shr (shr x a) b = shr x (a + b) := by unfold shr; rw [Nat.div_div_eq_div_mul, Nat.pow_add]
theorem shr_lt {x k n : Nat} (hx : x < 2 ^ n) (h : n ≤ k) : shr x k = 0 := by
  unfold shr; exact Nat.div_eq_of_lt (Nat.lt_of_lt_of_le hx (Nat.pow_le_pow_right (by omega) h))
theorem bitI_range (x k : Nat) : 0 ≤ bitI x k ∧ bitI x k ≤ 1 := by unfold bitI; omega
theorem shr_bit (x k : Nat) : (shr x k : Int) = 2 * (shr x (k + 1) : Int) + bitI x k := by rw [shr_succ]; unfold bitI; omega
theorem bitI_eq (x k : Nat) : bitI x k = if x.testBit k then 1 else 0 := by
  unfold bitI shr
  rw [Nat.testBit_eq_decide_div_mod_eq]
  generalize x / 2 ^ k = y
  by_cases h : y % 2 = 1
  · simp only [h, decide_true, if_true]; omega
  · simp only [h, decide_false]; simp; omega
theorem bitI_inj {x y n : Nat} (hx : x < 2 ^ n) (hy : y < 2 ^ n) (h : ∀ i, i < n → bitI x i = bitI y i) : x = y := by
  apply Nat.eq_of_testBit_eq
  intro i
  by_cases hi : i < n
  · have := h i hi
    rw [bitI_eq, bitI_eq] at this
    cases hx : x.testBit i <;> cases hy : y.testBit i <;> simp_all
  · rw [Nat.testBit_lt_two_pow (Nat.lt_of_lt_of_le hx (Nat.pow_le_pow_right (by omega) (by omega))), Nat.testBit_lt_two_pow (Nat.lt_of_lt_of_le hy (Nat.pow_le_pow_right (by omega) (by omega)))]

/-! ### Turned words -/
/-- x, of n bits, turned to the right by k. -/
def rot (n x k : Nat) : Nat := x / 2 ^ k ||| x * 2 ^ (n - k) % 2 ^ n
theorem rot_lt {n x k : Nat} (hx : x < 2 ^ n) : rot n x k < 2 ^ n := by
  unfold rot
  exact Nat.or_lt_two_pow (Nat.lt_of_le_of_lt (Nat.div_le_self _ _) hx) (Nat.mod_lt _ (Nat.two_pow_pos n))
theorem rot_bit {n x k i : Nat} (hx : x < 2 ^ n) (hk : k < n) (hi : i < n) : (rot n x k).testBit i = x.testBit ((i + k) % n) := by
  unfold rot
  rw [Nat.testBit_or, Nat.testBit_div_two_pow, Nat.testBit_mod_two_pow, Nat.testBit_mul_two_pow]
  by_cases h : i + k < n
  · rw [Nat.mod_eq_of_lt h]; simp [show ¬ n - k ≤ i by omega]
  · rw [Nat.mod_eq_sub_mod (by omega), Nat.mod_eq_of_lt (by omega)]
    rw [Nat.testBit_lt_two_pow (Nat.lt_of_lt_of_le hx (Nat.pow_le_pow_right (by omega) (by omega : n ≤ i + k)))]
    simp [hi, show n - k ≤ i by omega, show i - (n - k) = i + k - n by omega]
theorem rot_bitI {n x k i : Nat} (hx : x < 2 ^ n) (hk : k < n) (hi : i < n) : bitI (rot n x k) i = bitI x ((i + k) % n) := by rw [bitI_eq, bitI_eq, rot_bit hx hk hi]
/-- Two words are the same where all their bits are. -/
theorem eq_of_bits {x y n : Nat} (hx : x < 2 ^ n) (hy : y < 2 ^ n) (h : ∀ i, i < n → x.testBit i = y.testBit i) : x = y :=
  bitI_inj hx hy fun i hi => by rw [bitI_eq, bitI_eq, h i hi]
theorem rot_rot {n x a b : Nat} (hx : x < 2 ^ n) (ha : a < n) (hb : b < n) : rot n (rot n x a) b = rot n x ((a + b) % n) := by
  apply eq_of_bits (rot_lt (rot_lt hx)) (rot_lt hx)
  intro i hi
  rw [rot_bit (rot_lt hx) hb hi, rot_bit hx ha (Nat.mod_lt _ (by omega)), rot_bit hx (Nat.mod_lt _ (by omega)) hi]
  congr 1
  rw [Nat.mod_add_mod, Nat.add_mod_mod]
  congr 1
  omega
theorem rot_zero {n x : Nat} (hn : 0 < n) (hx : x < 2 ^ n) : rot n x 0 = x := by
  apply eq_of_bits (rot_lt hx) hx
  intro i hi
  rw [rot_bit hx hn hi, Nat.add_zero, Nat.mod_eq_of_lt hi]
theorem rot_xor {n x y k : Nat} (hx : x < 2 ^ n) (hy : y < 2 ^ n) (hk : k < n) : rot n (x ^^^ y) k = rot n x k ^^^ rot n y k := by
  apply eq_of_bits (rot_lt (Nat.xor_lt_two_pow hx hy)) (Nat.xor_lt_two_pow (rot_lt hx) (rot_lt hy))
  intro i hi
  rw [Nat.testBit_xor, rot_bit (Nat.xor_lt_two_pow hx hy) hk hi, rot_bit hx hk hi, rot_bit hy hk hi, Nat.testBit_xor]
/-- By how far a word of 2^j bits is turned: any number, round at its bits. -/
def turnBy (n : Nat) (k : Int) : Nat := (k % (n : Int)).toNat
theorem turnBy_lt {n : Nat} (k : Int) (h : 0 < n) : turnBy n k < n := by
  unfold turnBy
  have := Int.emod_nonneg k (by omega : (n : Int) ≠ 0)
  have := Int.emod_lt_of_pos k (by omega : 0 < (n : Int))
  omega
theorem ret_int {k : IntKind} {a b : Int} (h : a = b) : Ending.returned (.int k a) = .returned (.int k b) := by rw [h]
theorem ret_bool {a b : Bool} (h : a = b) : Ending.returned (.bool a) = .returned (.bool b) := by rw [h]

theorem and32 {x : Nat} (y : Nat) (hx : x < 4294967296) : x &&& y < 4294967296 := Nat.lt_of_le_of_lt Nat.and_le_left hx
theorem or32 {x y : Nat} (hx : x < 4294967296) (hy : y < 4294967296) : x ||| y < 4294967296 := Nat.or_lt_two_pow (n := 32) hx hy
theorem xor32 {x y : Nat} (hx : x < 4294967296) (hy : y < 4294967296) : x ^^^ y < 4294967296 := Nat.xor_lt_two_pow (n := 32) hx hy
theorem rot32 {x k : Nat} (hx : x < 4294967296) : rot 32 x k < 4294967296 := rot_lt (n := 32) hx
theorem and64 {x : Nat} (y : Nat) (hx : x < 18446744073709551616) : x &&& y < 18446744073709551616 := Nat.lt_of_le_of_lt Nat.and_le_left hx
theorem or64 {x y : Nat} (hx : x < 18446744073709551616) (hy : y < 18446744073709551616) : x ||| y < 18446744073709551616 := Nat.or_lt_two_pow (n := 64) hx hy
theorem xor64 {x y : Nat} (hx : x < 18446744073709551616) (hy : y < 18446744073709551616) : x ^^^ y < 18446744073709551616 := Nat.xor_lt_two_pow (n := 64) hx hy
theorem rot64 {x k : Nat} (hx : x < 18446744073709551616) : rot 64 x k < 18446744073709551616 := rot_lt (n := 64) hx

/-! ### Whole rows: loads, stores, as rules of the walk -/
section
variable {P : Program}
/-- Block n is a row of k cells that may be written. -/
def RowOk (w : World) (n k : Nat) : Prop := ∃ c t, w.heap[n]? = some (.cells c t (0, 0)) ∧ c.size = k
/-- The cells of block n. -/
def rowAt (w : World) (n : Nat) : Array Value := match w.heap[n]? with | some (.cells c _ _) => c | _ => #[]
theorem rowAt_of {w : World} {n : Nat} {c : Array Value} {t : TypeId} {fr : Nat × Nat} (h : w.heap[n]? = some (.cells c t fr)) : rowAt w n = c := by unfold rowAt; rw [h]
theorem RowOk.heap {w : World} {n k : Nat} (h : RowOk w n k) : ∃ t, w.heap[n]? = some (.cells (rowAt w n) t (0, 0)) ∧ (rowAt w n).size = k := by
  obtain ⟨c, t, hg, hs⟩ := h
  rw [rowAt_of hg]; exact ⟨t, hg, hs⟩
theorem RowOk.lt {w : World} {n k : Nat} (h : RowOk w n k) : n < w.heap.size := by
  obtain ⟨c, t, hg, hs⟩ := h
  rcases Nat.lt_or_ge n w.heap.size with hlt | hge
  · exact hlt
  · rw [Array.getElem?_eq_none hge] at hg; cases hg
/-- A whole row's load, a whole row's store, kept from the walk's unfolding. -/
def loadRow (ty : TypeId) (x : Value) : Sem Value := Instr.loadAt ty x
def storeRow (ty : TypeId) (x y : Value) : Sem Unit := Instr.storeAt ty x y
theorem loadAt_row {w : World} {n k : Nat} {ty : TypeId} {d : TypeDesc} (hg : RowOk w n k)
    (hu : P.underlying ty = some d) (hd : (match d with | .struct _ | .array _ _ => true | _ => false) = true) (hi : (P.info? ty).map (·.size) = some k) :
    (loadRow ty (.pointer (some ⟨n, 0, none⟩))).run P w = .ok (.agg (rowAt w n)) w := by
  unfold loadRow
  obtain ⟨t, hg, hs⟩ := hg.heap
  simp only [Instr.loadAt, Instr.sureAddr, Sem.run_bind, Sem.run_pure, Result.andThen_ok]
  exact run_loadVar_row w n t ty _ _ d hg hu hd (by rw [hi, hs])
theorem storeAt_row {w : World} {n k : Nat} {ty : TypeId} {c' : Array Value} (hg : RowOk w n k)
    (hi : (P.info? ty).map (·.size) = some k) (hs' : c'.size = k) (h1 : OneCells c') :
    (storeRow ty (.pointer (some ⟨n, 0, none⟩)) (.agg c')).run P w = .ok () (w.setRow n c') := by
  unfold storeRow
  obtain ⟨t, hg, hs⟩ := hg.heap
  simp only [Instr.storeAt, Instr.sureAddr, Sem.run_bind, Sem.run_pure, Result.andThen_ok]
  exact run_storeVar_row w n t ty _ c' hg (by rw [hi, hs']) (by rw [hs, hs']) h1
end
theorem RowOk_alloc_at {w : World} {c : Array Value} {t : TypeId} {n k : Nat} (h : n = w.heap.size) : RowOk (w.alloc (.cells c t)) n k ↔ c.size = k := by
  subst h
  unfold RowOk
  rw [heap_alloc_new]
  constructor
  · rintro ⟨c', t', e, hs⟩; cases e; exact hs
  · intro hs; exact ⟨c, t, rfl, hs⟩
theorem RowOk_alloc_past {w : World} {o : Obj} {n k : Nat} (h : n < w.heap.size) : RowOk (w.alloc o) n k ↔ RowOk w n k := by unfold RowOk; rw [Below.heap_alloc w o n h]
theorem RowOk_setRow_at {w : World} {n k : Nat} {c : Array Value} (hr : RowOk w n k) : RowOk (w.setRow n c) n k ↔ c.size = k := by
  obtain ⟨t, hg, hs⟩ := hr.heap
  unfold RowOk
  rw [setRow_heap _ _ _ _ _ _ hg]
  constructor
  · rintro ⟨c', t', e, hs⟩; cases e; exact hs
  · intro hs; exact ⟨c, t, rfl, hs⟩
theorem RowOk_setRow_past {w : World} {n m k : Nat} {c : Array Value} (h : n ≠ m) : RowOk (w.setRow m c) n k ↔ RowOk w n k := by unfold RowOk; rw [setRow_other _ _ _ _ h]
theorem rowAt_alloc_at {w : World} {c : Array Value} {t : TypeId} {n : Nat} (h : n = w.heap.size) : rowAt (w.alloc (.cells c t)) n = c := by subst h; exact rowAt_of (heap_alloc_new _ _)
theorem rowAt_alloc_past {w : World} {o : Obj} {n : Nat} (h : n < w.heap.size) : rowAt (w.alloc o) n = rowAt w n := by unfold rowAt; rw [Below.heap_alloc w o n h]
theorem setRow_alloc_at {w : World} {c c' : Array Value} {t : TypeId} {n : Nat} (h : n = w.heap.size) : (w.alloc (.cells c t)).setRow n c' = w.alloc (.cells c' t) := by
  subst h
  simp only [World.setRow, World.alloc]
  congr 1
  apply Array.ext_getElem?
  intro i
  rw [Array.getElem?_modify]
  by_cases h : w.heap.size = i
  · subst h; simp
  · have h' : ¬ i = w.heap.size := fun e => h e.symm
    simp [h, h', Array.getElem?_push]
theorem setRow_alloc_past {w : World} {o : Obj} {c' : Array Value} {n : Nat} (h : n < w.heap.size) : (w.alloc o).setRow n c' = (w.setRow n c').alloc o := by
  simp only [World.setRow, World.alloc]
  congr 1
  apply Array.ext_getElem?
  intro i
  rw [Array.getElem?_modify]
  simp only [Array.getElem?_push, Array.size_modify, Array.getElem?_modify]
  by_cases hk : i = w.heap.size
  · subst hk; simp [Nat.ne_of_lt h]
  · simp [hk]
theorem heap_alloc_far (w : World) (o : Obj) (n : Nat) (h : n ≠ w.heap.size) : (w.alloc o).heap[n]? = w.heap[n]? := by
  show (w.heap.push o)[n]? = _
  rw [Array.getElem?_push, if_neg h]
theorem RowOk_alloc (w : World) (c : Array Value) (t : TypeId) (n k : Nat) : RowOk (w.alloc (.cells c t)) n k ↔ if n = w.heap.size then c.size = k else RowOk w n k := by
  by_cases h : n = w.heap.size
  · rw [if_pos h]; exact RowOk_alloc_at h
  · rw [if_neg h]; unfold RowOk; rw [heap_alloc_far w _ n h]
theorem rowAt_alloc (w : World) (c : Array Value) (t : TypeId) (n : Nat) : rowAt (w.alloc (.cells c t)) n = if n = w.heap.size then c else rowAt w n := by
  by_cases h : n = w.heap.size
  · rw [if_pos h]; exact rowAt_alloc_at h
  · rw [if_neg h]; unfold rowAt; rw [heap_alloc_far w _ n h]
theorem setRow_alloc (w : World) (c c' : Array Value) (t : TypeId) (n : Nat) : (w.alloc (.cells c t)).setRow n c' = if n = w.heap.size then w.alloc (.cells c' t) else (w.setRow n c').alloc (.cells c t) := by
  by_cases h : n = w.heap.size
  · rw [if_pos h]; exact setRow_alloc_at h
  · rw [if_neg h]
    simp only [World.setRow, World.alloc]
    congr 1
    apply Array.ext_getElem?
    intro i
    rw [Array.getElem?_modify]
    simp only [Array.getElem?_push, Array.size_modify, Array.getElem?_modify]
    by_cases hk : i = w.heap.size
    · subst hk; simp [h]
    · simp [hk]
theorem arr_getElem (n : Nat) (f : Nat → Int) (i : Nat) (h : i < (arr n f).size) : (arr n f)[i] = .int .i64 (f i) := by
  have e := arr_at n f i (by simpa [arr_size] using h)
  rw [Array.getElem?_eq_getElem h] at e
  injection e
theorem RowOk_drewN (w : World) (m n k : Nat) : RowOk (w.drewN m) n k ↔ RowOk w n k := Iff.trans Iff.rfl Iff.rfl
theorem RowOk_drew (w : World) (n k : Nat) : RowOk w.drew n k ↔ RowOk w n k := Iff.trans Iff.rfl Iff.rfl
theorem rowAt_drewN (w : World) (m n : Nat) : rowAt (w.drewN m) n = rowAt w n := Eq.trans rfl rfl
theorem rowAt_drew (w : World) (n : Nat) : rowAt w.drew n = rowAt w n := Eq.trans rfl rfl
theorem setRow_drew (w : World) (n : Nat) (c : Array Value) : w.drew.setRow n c = (w.setRow n c).drew := Eq.trans rfl rfl
theorem setRow_drewN (w : World) (m n : Nat) (c : Array Value) : (w.drewN m).setRow n c = (w.setRow n c).drewN m := Eq.trans rfl rfl
theorem _root_.Go.RowKit.Below.drewN {B : Nat} {a w : World} (h : Below B a w) (n : Nat) : Below B a (w.drewN n) := ⟨h.os, h.tape, h.output, h.size, h.block⟩
theorem setCell_drewN (w : World) (n : Nat) (a : Addr) (v : Value) : (w.drewN n).setCell a v = (w.setCell a v).drewN n := Eq.trans rfl rfl
attribute [go_sem] setCell_drewN RowOk_drewN RowOk_drew rowAt_drewN rowAt_drew setRow_drew setRow_drewN
attribute [go_sem] RowOk_alloc rowAt_alloc setRow_alloc arr_size arr_ones arr_getElem
attribute [simp] arr_size

/-! ### Picks -/
def majN (x y z : Nat) : Nat := x &&& y ||| x &&& z ||| y &&& z
theorem ones_bit (n i : Nat) (h : i < n) : (2 ^ n - 1).testBit i = true := by rw [Nat.testBit_two_pow_sub_one]; simpa using h
theorem maj_bitI (x y z i : Nat) : bitI (majN x y z) i = (bitI x i + bitI y i + bitI z i) / 2 := by
  unfold majN
  rw [bitI_eq, bitI_eq, bitI_eq, bitI_eq, Nat.testBit_or, Nat.testBit_or, Nat.testBit_and, Nat.testBit_and, Nat.testBit_and]
  cases x.testBit i <;> cases y.testBit i <;> cases z.testBit i <;> rfl
theorem xor_bitI (x y i : Nat) : bitI (x ^^^ y) i = (bitI x i + bitI y i) % 2 := by
  rw [bitI_eq, bitI_eq, bitI_eq, Nat.testBit_xor]
  cases x.testBit i <;> cases y.testBit i <;> rfl
/-! ### Slices of words -/
/-- A slice of words lies in the world: element i of it is word i of the list. -/
def Words (k : IntKind) (w : World) (A : Option Addr) (xs : List Nat) : Prop :=
  ∀ i, i < xs.length → ∃ b o, A = some ⟨b, o, none⟩ ∧ w.cell? ⟨b, o + i, none⟩ = some (.int k (xs.getD i 0 : Nat))

/-- What came in: nil, or a row of cells. -/
def IsRow (k : IntKind) (w : World) (a : Option Addr) (len cap : Nat) (zs : List Int) : Prop :=
  (a = none ∧ len = 0 ∧ cap = 0 ∧ zs = []) ∨
  ∃ x, a = some x ∧ len ≤ cap ∧ cap ≤ maxLen ∧ zs.length = cap ∧ (∀ i, i < zs.length → w.cell? (x.add i) = some (.int k (zs.getD i 0))) ∧ ∀ n ∈ zs, (Lit.int k n).wf = true
theorem words_of_row {k : IntKind} {m : Int} (hk : ∀ n : Int, (Lit.int k n).wf = true → 0 ≤ n ∧ n ≤ m) {w : World} {a : Option Addr} {len cap : Nat} {zs : List Int} (h : IsRow k w a len cap zs) :
    ∃ xs : List Nat, xs.length = len ∧ (∀ x ∈ xs, (x : Int) ≤ m) ∧ xs.length ≤ maxLen ∧ Words k w a xs := by
  rcases h with ⟨rfl, rfl, rfl, rfl⟩ | ⟨x, rfl, hl, hm, hz, hc, hw⟩
  · exact ⟨[], rfl, by simp, by simp, fun i hi => by simp at hi⟩
  · refine ⟨(zs.take len).map Int.toNat, by simp; omega, ?_, by simp; omega, ?_⟩
    · intro y hy
      obtain ⟨z, hz1, rfl⟩ := List.mem_map.1 hy
      have := hk z (hw z (List.mem_of_mem_take hz1))
      omega
    · intro i hi
      have hi' : i < len := by simp at hi; omega
      have hiz : i < zs.length := by omega
      obtain ⟨b, o, rfl, hc'⟩ := ints_at hc (by omega)
      refine ⟨b, o, rfl, ?_⟩
      rw [hc' i hiz]
      have hwf := hk _ (hw (zs.getD i 0) (by rw [List.getD_eq_getElem?_getD, List.getElem?_eq_getElem hiz]; exact List.getElem_mem hiz))
      simp only [List.getD_eq_getElem?_getD, List.getElem?_map, List.getElem?_take_of_lt hi'] at hwf ⊢
      rw [List.getElem?_eq_getElem hiz] at hwf ⊢
      simp only [Option.map_some, Option.getD_some] at hwf ⊢
      rw [Int.toNat_of_nonneg hwf.1]
/-! ### Tables of the program's own -/
/-- Block g holds the cells vs, from its head on. -/
def Tab (w : World) (g : Nat) (vs : List Value) : Prop := ∀ j v, vs[j]? = some v → w.cell? ⟨g, j, none⟩ = some v
theorem Tab.below {w w' : World} {g : Nat} {vs : List Value} {B : Nat} (h : Tab w g vs) (hb : Below B w w') (hB : w.heap.size ≤ B) : Tab w' g vs := fun j v hj => by
  have hc := h j v hj
  exact (hb.cell (p := ⟨g, j, none⟩) (Nat.lt_of_lt_of_le (block_lt_of_cell hc) hB)).trans hc
/-! ### Calls that leave the world alone, in a region that draws its order -/
theorem quiet_left {P : Program} {f : FuncId} {args : Array Value} {w : World} {n : Nat} {v : Value}
    (h : Calls P f args (w.drewN n) fun e w' => e = .returned v ∧ w.drewN n = w') : Calls P f args (w.drewN n) fun e w'' => e = .returned v ∧ ∃ m, w'' = w.drewN m :=
  h.mono fun _ _ ⟨he, hm⟩ => ⟨he, n, hm.symm⟩
theorem quiet_add_left {P : Program} {f : FuncId} {args : Array Value} {w : World} {a n : Nat} {v : Value}
    (h : Calls P f args (w.drewN (a + n)) fun e w' => e = .returned v ∧ w.drewN (a + n) = w') :
    Calls P f args (w.drewN (a + n)) fun e w'' => e = .returned v ∧ ∃ m, w'' = w.drewN (a + m) :=
  h.mono fun _ _ ⟨he, hm⟩ => ⟨he, n, hm.symm⟩
theorem turnBy_nat {n k : Nat} (h : k < n) : turnBy n k = k := by unfold turnBy; rw [Int.emod_eq_of_lt (by omega) (by omega)]; rfl
end Go.Proofs.YtpdbbeafleeajaaDoor
