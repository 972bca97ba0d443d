/- part -/
import Derived.WalkKit
import Derived.WalkSpells
import Derived.WalkLawsBesides
import Derived.Handy
import Derived.Deep.MidRow
import Derived.Laws.CopyOwn
import Derived.Lib.Hide
import Derived.OpenShut
import Derived.Deep.QuietTactic
import Derived.BigQuiet
import Derived.StillTailTactics
import Derived.LaidLaws
import Derived.ChangeArms
import Derived.Lib.LaidTab
import Derived.Test.YtenffmfklmialaaGreatDoorRows
set_option linter.unusedVariables false
set_option linter.unusedSimpArgs false
set_option maxHeartbeats 8000000
namespace Go.Proofs.YtenffmfklmialaaGreatDoor
open Go.RowKit
section
def tab (n : Nat) (f : Nat → Value) : Array Value := ((List.range n).map f).toArray
def arr (n : Nat) (f : Nat → Int) : Array Value := tab n fun i => .int .i64 (f i)
theorem tab_size (n : Nat) (f : Nat → Value) : (tab n f).size = n := by simp [tab]
theorem arr_size (n : Nat) (f : Nat → Int) : (arr n f).size = n := tab_size _ _
theorem tab_at (n : Nat) (f : Nat → Value) (i : Nat) (h : i < n) : (tab n f)[i]? = some (f i) := by simp [tab, h]
theorem arr_at (n : Nat) (f : Nat → Int) (i : Nat) (h : i < n) : (arr n f)[i]? = some (.int .i64 (f i)) := tab_at _ _ _ h
theorem tab_congr {n : Nat} {f g : Nat → Value} (h : ∀ i, i < n → f i = g i) : tab n f = tab n g := by
 unfold tab
 congr 1
 exact List.map_congr_left fun i hi => h i (List.mem_range.1 hi)
theorem arr_congr {n : Nat} {f g : Nat → Int} (h : ∀ i, i < n → f i = g i) : arr n f = arr n g := tab_congr fun i hi => by rw [h i hi]
theorem tab_set (n : Nat) (f g : Nat → Value) (k : Nat) (v : Value) (hk : g k = v) (ho : ∀ i, i < n → i ≠ k → g i = f i) : (tab n f).setIfInBounds k v = tab n g := by
 unfold tab
 rw [List.setIfInBounds_toArray]
 congr 1
 apply List.ext_getElem?
 intro i
 rw [List.getElem?_set]
 by_cases hik : k = i
 · subst hik; by_cases h : k < n <;> simp [h, hk]
 · by_cases hi : i < n
   · simp [hik, hi, ho i hi (fun e => hik e.symm)]
   · simp [hik, hi]
theorem arr_set (n : Nat) (f g : Nat → Int) (k : Nat) (v : Int) (hk : g k = v) (ho : ∀ i, i < n → i ≠ k → g i = f i) : (arr n f).setIfInBounds k (.int .i64 v) = arr n g :=
 tab_set n _ _ k _ (by rw [hk]) fun i hi hn => by rw [ho i hi hn]
theorem tab_one (n : Nat) (f : Nat → Value) (h : ∀ i, (f i).oneCell' = true) : (tab n f).all (·.oneCell') = true := by
 unfold tab; rw [List.all_toArray, List.all_map]; simp [h]
theorem arr_one (n : Nat) (f : Nat → Int) : (arr n f).all (·.oneCell') = true := tab_one _ _ fun _ => rfl
def OneCells (c : Array Value) : Prop := c.all (·.oneCell') = true
theorem arr_ones (n : Nat) (f : Nat → Int) : OneCells (arr n f) := arr_one n f
def shr (x k : Nat) : Nat := x / 2 ^ k
def bitI (x k : Nat) : Int := ((shr x k : Nat) : Int) % 2
theorem bitI_eq (x k : Nat) : bitI x k = if x.testBit k then 1 else 0 := by
 unfold bitI shr
 rw [Nat.testBit_eq_decide_div_mod_eq]
 generalize x / 2 ^ k = y
 by_cases h : y % 2 = 1
 · simp only [h, decide_true, if_true]; omega
 · simp only [h, decide_false]; simp; omega
theorem bitI_inj {x y n : Nat} (hx : x < 2 ^ n) (hy : y < 2 ^ n) (h : ∀ i, i < n → bitI x i = bitI y i) : x = y := by
 apply Nat.eq_of_testBit_eq
 intro i
 by_cases hi : i < n
 · have := h i hi
   rw [bitI_eq, bitI_eq] at this
   cases hx : x.testBit i <;> cases hy : y.testBit i <;> simp_all
 · rw [Nat.testBit_lt_two_pow (Nat.lt_of_lt_of_le hx (Nat.pow_le_pow_right (by omega) (by omega))), Nat.testBit_lt_two_pow (Nat.lt_of_lt_of_le hy (Nat.pow_le_pow_right (by omega) (by omega)))]
def rot (n x k : Nat) : Nat := x / 2 ^ k ||| x * 2 ^ (n - k) % 2 ^ n
theorem rot_lt {n x k : Nat} (hx : x < 2 ^ n) : rot n x k < 2 ^ n := by
 unfold rot
 exact Nat.or_lt_two_pow (Nat.lt_of_le_of_lt (Nat.div_le_self _ _) hx) (Nat.mod_lt _ (Nat.two_pow_pos n))
theorem rot_bit {n x k i : Nat} (hx : x < 2 ^ n) (hk : k < n) (hi : i < n) : (rot n x k).testBit i = x.testBit ((i + k) % n) := by
 unfold rot
 rw [Nat.testBit_or, Nat.testBit_div_two_pow, Nat.testBit_mod_two_pow, Nat.testBit_mul_two_pow]
 by_cases h : i + k < n
 · rw [Nat.mod_eq_of_lt h]; simp [show ¬ n - k ≤ i by omega]
 · rw [Nat.mod_eq_sub_mod (by omega), Nat.mod_eq_of_lt (by omega)]
   rw [Nat.testBit_lt_two_pow (Nat.lt_of_lt_of_le hx (Nat.pow_le_pow_right (by omega) (by omega : n ≤ i + k)))]
   simp [hi, show n - k ≤ i by omega, show i - (n - k) = i + k - n by omega]
theorem eq_of_bits {x y n : Nat} (hx : x < 2 ^ n) (hy : y < 2 ^ n) (h : ∀ i, i < n → x.testBit i = y.testBit i) : x = y :=
 bitI_inj hx hy fun i hi => by rw [bitI_eq, bitI_eq, h i hi]
theorem rot_zero {n x : Nat} (hn : 0 < n) (hx : x < 2 ^ n) : rot n x 0 = x := by
 apply eq_of_bits (rot_lt hx) hx
 intro i hi
 rw [rot_bit hx hn hi, Nat.add_zero, Nat.mod_eq_of_lt hi]
def turnBy (n : Nat) (k : Int) : Nat := (k % (n : Int)).toNat
theorem turnBy_lt {n : Nat} (k : Int) (h : 0 < n) : turnBy n k < n := by
 unfold turnBy
 have := Int.emod_nonneg k (by omega : (n : Int) ≠ 0)
 have := Int.emod_lt_of_pos k (by omega : 0 < (n : Int))
 omega
theorem ret_int {k : IntKind} {a b : Int} (h : a = b) : Ending.returned (.int k a) = .returned (.int k b) := by rw [h]
theorem and64 {x : Nat} (y : Nat) (hx : x < 18446744073709551616) : x &&& y < 18446744073709551616 := Nat.lt_of_le_of_lt Nat.and_le_left hx
theorem or64 {x y : Nat} (hx : x < 18446744073709551616) (hy : y < 18446744073709551616) : x ||| y < 18446744073709551616 := Nat.or_lt_two_pow (n := 64) hx hy
theorem xor64 {x y : Nat} (hx : x < 18446744073709551616) (hy : y < 18446744073709551616) : x ^^^ y < 18446744073709551616 := Nat.xor_lt_two_pow (n := 64) hx hy
theorem rot64 {x k : Nat} (hx : x < 18446744073709551616) : rot 64 x k < 18446744073709551616 := rot_lt (n := 64) hx
section
variable {P : Program}
def RowOk (w : World) (n k : Nat) : Prop := ∃ c t, w.heap[n]? = some (.cells c t (0, 0)) ∧ c.size = k
def rowAt (w : World) (n : Nat) : Array Value := match w.heap[n]? with | some (.cells c _ _) => c | _ => #[]
theorem rowAt_of {w : World} {n : Nat} {c : Array Value} {t : TypeId} {fr : Nat × Nat} (h : w.heap[n]? = some (.cells c t fr)) : rowAt w n = c := by unfold rowAt; rw [h]
theorem RowOk.heap {w : World} {n k : Nat} (h : RowOk w n k) : ∃ t, w.heap[n]? = some (.cells (rowAt w n) t (0, 0)) ∧ (rowAt w n).size = k := by
 obtain ⟨c, t, hg, hs⟩ := h
 rw [rowAt_of hg]; exact ⟨t, hg, hs⟩
theorem RowOk.lt {w : World} {n k : Nat} (h : RowOk w n k) : n < w.heap.size := by
 obtain ⟨c, t, hg, hs⟩ := h
 rcases Nat.lt_or_ge n w.heap.size with hlt | hge
 · exact hlt
 · rw [Array.getElem?_eq_none hge] at hg; cases hg
def loadRow (ty : TypeId) (x : Value) : Sem Value := Instr.loadAt ty x
def storeRow (ty : TypeId) (x y : Value) : Sem Unit := Instr.storeAt ty x y
theorem loadAt_row {w : World} {n k : Nat} {ty : TypeId} {d : TypeDesc} (hg : RowOk w n k)
 (hu : P.underlying ty = some d) (hd : (match d with | .struct _ | .array _ _ => true | _ => false) = true) (hi : (P.info? ty).map (·.size) = some k) :
 (loadRow ty (.pointer (some ⟨n, 0, none⟩))).run P w = .ok (.agg (rowAt w n)) w := by
 unfold loadRow
 obtain ⟨t, hg, hs⟩ := hg.heap
 simp only [Instr.loadAt, Instr.sureAddr, Sem.run_bind, Sem.run_pure, Result.andThen_ok]
 exact run_loadVar_row w n t ty _ _ d hg hu hd (by rw [hi, hs])
theorem storeAt_row {w : World} {n k : Nat} {ty : TypeId} {c' : Array Value} (hg : RowOk w n k)
 (hi : (P.info? ty).map (·.size) = some k) (hs' : c'.size = k) (h1 : OneCells c') :
 (storeRow ty (.pointer (some ⟨n, 0, none⟩)) (.agg c')).run P w = .ok () (w.setRow n c') := by
 unfold storeRow
 obtain ⟨t, hg, hs⟩ := hg.heap
 simp only [Instr.storeAt, Instr.sureAddr, Sem.run_bind, Sem.run_pure, Result.andThen_ok]
 exact run_storeVar_row w n t ty _ c' hg (by rw [hi, hs']) (by rw [hs, hs']) h1
end
theorem RowOk_alloc_at {w : World} {c : Array Value} {t : TypeId} {n k : Nat} (h : n = w.heap.size) : RowOk (w.alloc (.cells c t)) n k ↔ c.size = k := by
 subst h
 unfold RowOk
 rw [heap_alloc_new]
 constructor
 · rintro ⟨c', t', e, hs⟩; cases e; exact hs
 · intro hs; exact ⟨c, t, rfl, hs⟩
theorem RowOk_setRow_at {w : World} {n k : Nat} {c : Array Value} (hr : RowOk w n k) : RowOk (w.setRow n c) n k ↔ c.size = k := by
 obtain ⟨t, hg, hs⟩ := hr.heap
 unfold RowOk
 rw [setRow_heap _ _ _ _ _ _ hg]
 constructor
 · rintro ⟨c', t', e, hs⟩; cases e; exact hs
 · intro hs; exact ⟨c, t, rfl, hs⟩
theorem RowOk_setRow_past {w : World} {n m k : Nat} {c : Array Value} (h : n ≠ m) : RowOk (w.setRow m c) n k ↔ RowOk w n k := by unfold RowOk; rw [setRow_other _ _ _ _ h]
theorem rowAt_alloc_at {w : World} {c : Array Value} {t : TypeId} {n : Nat} (h : n = w.heap.size) : rowAt (w.alloc (.cells c t)) n = c := by subst h; exact rowAt_of (heap_alloc_new _ _)
theorem setRow_alloc_at {w : World} {c c' : Array Value} {t : TypeId} {n : Nat} (h : n = w.heap.size) : (w.alloc (.cells c t)).setRow n c' = w.alloc (.cells c' t) := by
 subst h
 simp only [World.setRow, World.alloc]
 congr 1
 apply Array.ext_getElem?
 intro i
 rw [Array.getElem?_modify]
 by_cases h : w.heap.size = i
 · subst h; simp
 · have h' : ¬ i = w.heap.size := fun e => h e.symm
   simp [h, h', Array.getElem?_push]
theorem heap_alloc_far (w : World) (o : Obj) (n : Nat) (h : n ≠ w.heap.size) : (w.alloc o).heap[n]? = w.heap[n]? := by
 show (w.heap.push o)[n]? = _
 rw [Array.getElem?_push, if_neg h]
theorem RowOk_alloc (w : World) (c : Array Value) (t : TypeId) (n k : Nat) : RowOk (w.alloc (.cells c t)) n k ↔ if n = w.heap.size then c.size = k else RowOk w n k := by
 by_cases h : n = w.heap.size
 · rw [if_pos h]; exact RowOk_alloc_at h
 · rw [if_neg h]; unfold RowOk; rw [heap_alloc_far w _ n h]
theorem rowAt_alloc (w : World) (c : Array Value) (t : TypeId) (n : Nat) : rowAt (w.alloc (.cells c t)) n = if n = w.heap.size then c else rowAt w n := by
 by_cases h : n = w.heap.size
 · rw [if_pos h]; exact rowAt_alloc_at h
 · rw [if_neg h]; unfold rowAt; rw [heap_alloc_far w _ n h]
theorem setRow_alloc (w : World) (c c' : Array Value) (t : TypeId) (n : Nat) : (w.alloc (.cells c t)).setRow n c' = if n = w.heap.size then w.alloc (.cells c' t) else (w.setRow n c').alloc (.cells c t) := by
 by_cases h : n = w.heap.size
 · rw [if_pos h]; exact setRow_alloc_at h
 · rw [if_neg h]
   simp only [World.setRow, World.alloc]
   congr 1
   apply Array.ext_getElem?
   intro i
   rw [Array.getElem?_modify]
   simp only [Array.getElem?_push, Array.size_modify, Array.getElem?_modify]
   by_cases hk : i = w.heap.size
   · subst hk; simp [h]
   · simp [hk]
theorem arr_getElem (n : Nat) (f : Nat → Int) (i : Nat) (h : i < (arr n f).size) : (arr n f)[i] = .int .i64 (f i) := by
 have e := arr_at n f i (by simpa [arr_size] using h)
 rw [Array.getElem?_eq_getElem h] at e
 injection e
theorem RowOk_drewN (w : World) (m n k : Nat) : RowOk (w.drewN m) n k ↔ RowOk w n k := Iff.trans Iff.rfl Iff.rfl
theorem RowOk_drew (w : World) (n k : Nat) : RowOk w.drew n k ↔ RowOk w n k := Iff.trans Iff.rfl Iff.rfl
theorem rowAt_drewN (w : World) (m n : Nat) : rowAt (w.drewN m) n = rowAt w n := Eq.trans rfl rfl
theorem rowAt_drew (w : World) (n : Nat) : rowAt w.drew n = rowAt w n := Eq.trans rfl rfl
theorem setRow_drew (w : World) (n : Nat) (c : Array Value) : w.drew.setRow n c = (w.setRow n c).drew := Eq.trans rfl rfl
theorem setRow_drewN (w : World) (m n : Nat) (c : Array Value) : (w.drewN m).setRow n c = (w.setRow n c).drewN m := Eq.trans rfl rfl
theorem _root_.Go.RowKit.Below.drewN {B : Nat} {a w : World} (h : Below B a w) (n : Nat) : Below B a (w.drewN n) := ⟨h.os, h.tape, h.output, h.size, h.block⟩
theorem setCell_drewN (w : World) (n : Nat) (a : Addr) (v : Value) : (w.drewN n).setCell a v = (w.setCell a v).drewN n := Eq.trans rfl rfl
attribute [go_sem] setCell_drewN RowOk_drewN RowOk_drew rowAt_drewN rowAt_drew setRow_drew setRow_drewN
attribute [go_sem] RowOk_alloc rowAt_alloc setRow_alloc arr_size arr_ones arr_getElem
attribute [simp] arr_size
theorem ones_bit (n i : Nat) (h : i < n) : (2 ^ n - 1).testBit i = true := by rw [Nat.testBit_two_pow_sub_one]; simpa using h
def Words (k : IntKind) (w : World) (A : Option Addr) (xs : List Nat) : Prop :=
 ∀ i, i < xs.length → ∃ b o, A = some ⟨b, o, none⟩ ∧ w.cell? ⟨b, o + i, none⟩ = some (.int k (xs.getD i 0 : Nat))
def IsRow (k : IntKind) (w : World) (a : Option Addr) (len cap : Nat) (zs : List Int) : Prop :=
 (a = none ∧ len = 0 ∧ cap = 0 ∧ zs = []) ∨
 ∃ x, a = some x ∧ len ≤ cap ∧ cap ≤ maxLen ∧ zs.length = cap ∧ (∀ i, i < zs.length → w.cell? (x.add i) = some (.int k (zs.getD i 0))) ∧ ∀ n ∈ zs, (Lit.int k n).wf = true
theorem words_of_row {k : IntKind} {m : Int} (hk : ∀ n : Int, (Lit.int k n).wf = true → 0 ≤ n ∧ n ≤ m) {w : World} {a : Option Addr} {len cap : Nat} {zs : List Int} (h : IsRow k w a len cap zs) :
 ∃ xs : List Nat, xs.length = len ∧ (∀ x ∈ xs, (x : Int) ≤ m) ∧ xs.length ≤ maxLen ∧ Words k w a xs := by
 rcases h with ⟨rfl, rfl, rfl, rfl⟩ | ⟨x, rfl, hl, hm, hz, hc, hw⟩
 · exact ⟨[], rfl, by simp, by simp, fun i hi => by simp at hi⟩
 · refine ⟨(zs.take len).map Int.toNat, by simp; omega, ?_, by simp; omega, ?_⟩
   · intro y hy
     obtain ⟨z, hz1, rfl⟩ := List.mem_map.1 hy
     have := hk z (hw z (List.mem_of_mem_take hz1))
     omega
   · intro i hi
     have hi' : i < len := by simp at hi; omega
     have hiz : i < zs.length := by omega
     obtain ⟨b, o, rfl, hc'⟩ := ints_at hc (by omega)
     refine ⟨b, o, rfl, ?_⟩
     rw [hc' i hiz]
     have hwf := hk _ (hw (zs.getD i 0) (by rw [List.getD_eq_getElem?_getD, List.getElem?_eq_getElem hiz]; exact List.getElem_mem hiz))
     simp only [List.getD_eq_getElem?_getD, List.getElem?_map, List.getElem?_take_of_lt hi'] at hwf ⊢
     rw [List.getElem?_eq_getElem hiz] at hwf ⊢
     simp only [Option.map_some, Option.getD_some] at hwf ⊢
     rw [Int.toNat_of_nonneg hwf.1]
def Tab (w : World) (g : Nat) (vs : List Value) : Prop := ∀ j v, vs[j]? = some v → w.cell? ⟨g, j, none⟩ = some v
theorem Tab.below {w w' : World} {g : Nat} {vs : List Value} {B : Nat} (h : Tab w g vs) (hb : Below B w w') (hB : w.heap.size ≤ B) : Tab w' g vs := fun j v hj => by
 have hc := h j v hj
 exact (hb.cell (p := ⟨g, j, none⟩) (Nat.lt_of_lt_of_le (block_lt_of_cell hc) hB)).trans hc
end
section
def consec : Nat → List (Nat × Nat) → Option Nat
 | s, [] => some s
 | s, (o, l) :: r => if o = s then consec (s + l) r else none
theorem consec_le : ∀ (os : List (Nat × Nat)) (s e : Nat), consec s os = some e → s ≤ e
 | [], s, e, h => by simp [consec] at h; omega
 | (o, l) :: r, s, e, h => by
   unfold consec at h
   split at h
   · have := consec_le r _ _ h; omega
   · cases h
theorem consec_flat (cs : List Value) : ∀ (os : List (Nat × Nat)) (s e : Nat), consec s os = some e → (os.map fun x => (cs.drop x.1).take x.2).flatten = (cs.drop s).take (e - s)
 | [], s, e, h => by simp [consec] at h; subst h; simp
 | (o, l) :: r, s, e, h => by
   unfold consec at h
   split at h
   · rename_i ho
     subst ho
     have hle := consec_le r _ _ h
     rw [List.map_cons, List.flatten_cons, consec_flat cs r _ _ h]
     have h1 : e - o = l + (e - (o + l)) := by omega
     rw [h1, List.take_add, List.drop_drop]
   · cases h
def getAll {α : Type} : List (Option α) → Option (List α)
 | [] => some []
 | none :: _ => none
 | some a :: r => (getAll r).map (a :: ·)
theorem getAll_map {α : Type} : ∀ (l : List (Option α)) (r : List α), getAll l = some r → l = r.map some
 | [], r, h => by simp [getAll] at h; subst h; rfl
 | none :: l, r, h => by simp [getAll] at h
 | some a :: l, r, h => by
   simp only [getAll, Option.map_eq_some_iff] at h
   obtain ⟨r', h', rfl⟩ := h
   rw [getAll_map l r' h']; rfl
def lay (P : Program) : Nat → TypeId → DataW Unit → Option (List Value)
 | 0, _, _ => none
 | f + 1, t, d =>
   match P.underlying t, d with
   | some (.int k), .lit (.int k' n) => if k' = k then some [.int k n] else none
   | some .bool, .lit (.bool b) => some [.bool b]
   | some .string, .lit (.string l) => some [.string ⟨l.toArray⟩]
   | some (.array n e), .agg ds =>
     if ds.length = n ∧ consec 0 ((List.range n).map fun i => (i * P.cellsOf e, P.cellsOf e)) = some (P.cellsOf t) then (getAll (ds.map (lay P f e))).map List.flatten else none
   | some (.struct fs), .agg ds =>
     if ds.length = fs.toList.length ∧ consec 0 (fs.toList.map fun g => (g.offset, P.cellsOf g.type)) = some (P.cellsOf t) then (getAll ((fs.toList.zip ds).map fun x => lay P f x.1.type x.2)).map List.flatten else none
   | _, _ => none
theorem mapM_pieces {α β : Type} {f : α → Option β} : ∀ {l : List α} {r : List β}, l.mapM f = some r → l.length = r.length ∧ ∀ (i : Nat) a b, l[i]? = some a → r[i]? = some b → f a = some b := by
 intro l r h
 refine ⟨(Lib.mapM_length h).symm, fun i a b ha hb => ?_⟩
 obtain ⟨b', hb', hf⟩ := Lib.mapM_at h i a ha
 rw [hb] at hb'; cases hb'; exact hf
theorem lay_cells (P : Program) {enc : TypeId × Value → Unit} {w : World} {base : Nat} {sp : Nat → Bool} {held : Bool} :
 ∀ (f : Nat) (t : TypeId) (d : DataW Unit) (vs : List Value) (fuel : Nat) (cs : List Value) (p : List MemPlace),
  lay P f t d = some vs → DataW.trod enc P w base sp held fuel t cs = some (d, p) → cs = vs := by
 intro f
 induction f with
 | zero => intro t d vs fuel cs p h; simp [lay] at h
 | succ f ih =>
   intro t d vs fuel cs p h hd
   cases fuel with
   | zero => simp [DataW.trod] at hd
   | succ fuel =>
     unfold lay at h
     split at h
     · rename_i k k' n hu
       split at h
       · rename_i hk
         subst hk
         cases h
         obtain ⟨z, hc, hz, _⟩ := DataW.trod_int hu hd
         cases hz
         exact hc
       · cases h
     · rename_i b hu
       cases h
       unfold DataW.trod at hd
       rw [hu] at hd
       split at hd <;> simp_all
     · rename_i l hu
       cases h
       unfold DataW.trod at hd
       rw [hu] at hd
       split at hd <;> simp_all
       obtain ⟨_, h1, _⟩ := hd
       subst h1
       rfl
     · rename_i n e ds hu
       split at h
       · rename_i hc
         obtain ⟨hl, hcon⟩ := hc
         obtain ⟨ls, hls, rfl⟩ := Option.map_eq_some_iff.1 h
         unfold DataW.trod at hd
         rw [hu] at hd
         simp only at hd
         split at hd
         · rename_i hlen
           obtain ⟨xs, hm, hx⟩ := Option.map_eq_some_iff.1 hd
           have hds : xs.map (·.1) = ds := by have := congrArg Prod.fst hx; simpa using this
           obtain ⟨hxl, hxf⟩ := mapM_pieces hm
           have hls' := getAll_map _ _ hls
           have hfl := consec_flat cs _ _ _ hcon
           have e1 : ((List.range n).map fun i => (i * P.cellsOf e, P.cellsOf e)).map (fun x => (cs.drop x.1).take x.2) = ls := by
            apply List.ext_getElem?
            intro i
            by_cases hi : i < n
            · have hxi : i < xs.length := by rw [← hxl]; simpa using hi
              have h1 := hxf i i xs[i] (by simp [hi]) (by simp [hxi])
              have h2 : ds[i]? = some xs[i].1 := by rw [← hds]; simp [hxi]
              have h3 : (ds.map (lay P f e))[i]? = (ls.map some)[i]? := by rw [hls']
              rw [List.getElem?_map, h2, List.getElem?_map] at h3
              cases h4 : ls[i]? with
              | none => rw [h4] at h3; cases h3
              | some v =>
                rw [h4] at h3
                simp only [Option.map_some, Option.some.injEq] at h3
                have := ih _ _ _ _ _ _ h3 h1
                simp [hi, this]
            · have hll : ls.length = n := by have := congrArg List.length hls'; simp at this; omega
              rw [List.getElem?_eq_none (by simp; omega), List.getElem?_eq_none (by omega)]
           rw [e1] at hfl
           rw [hfl, List.drop_zero, Nat.sub_zero, ← hlen, List.take_length]
         · cases hd
       · cases h
     · rename_i fs ds hu
       split at h
       · rename_i hc
         obtain ⟨hl, hcon⟩ := hc
         obtain ⟨ls, hls, rfl⟩ := Option.map_eq_some_iff.1 h
         unfold DataW.trod at hd
         rw [hu] at hd
         simp only at hd
         split at hd
         · rename_i hlen
           obtain ⟨xs, hm, hx⟩ := Option.map_eq_some_iff.1 hd
           have hds : xs.map (·.1) = ds := by have := congrArg Prod.fst hx; simpa using this
           obtain ⟨hxl, hxf⟩ := mapM_pieces hm
           have hls' := getAll_map _ _ hls
           have hfl := consec_flat cs _ _ _ hcon
           have e1 : (fs.toList.map fun g => (g.offset, P.cellsOf g.type)).map (fun x => (cs.drop x.1).take x.2) = ls := by
            apply List.ext_getElem?
            intro i
            by_cases hi : i < fs.toList.length
            · have hxi : i < xs.length := by omega
              have h1 := hxf i fs.toList[i] xs[i] (List.getElem?_eq_getElem hi) (List.getElem?_eq_getElem hxi)
              have h2 : ds[i]? = some xs[i].1 := by rw [← hds, List.getElem?_map, List.getElem?_eq_getElem hxi]; rfl
              have h3 : ((fs.toList.zip ds).map fun x => lay P f x.1.type x.2)[i]? = (ls.map some)[i]? := by rw [hls']
              have hz : (fs.toList.zip ds)[i]? = some (fs.toList[i], xs[i].1) := List.getElem?_zip_eq_some.2 ⟨List.getElem?_eq_getElem hi, h2⟩
              rw [List.getElem?_map, hz, List.getElem?_map] at h3
              cases h4 : ls[i]? with
              | none => rw [h4] at h3; cases h3
              | some v =>
                rw [h4] at h3
                simp only [Option.map_some, Option.some.injEq] at h3
                have := ih _ _ _ _ _ _ h3 h1
                rw [List.getElem?_map, List.getElem?_map, List.getElem?_eq_getElem hi]
                exact congrArg some this
            · have hll : ls.length = fs.toList.length := by have := congrArg List.length hls'; simp only [List.length_map, List.length_zip] at this; omega
              rw [List.getElem?_eq_none (by simp only [List.length_map]; omega), List.getElem?_eq_none (by omega)]
           rw [e1] at hfl
           rw [hfl, List.drop_zero, Nat.sub_zero, ← hlen, List.take_length]
         · cases hd
       · cases h
     · cases h
theorem laidVars_at {P : Program} {w : World} : ∀ {laid : List (String × DataW Unit)} {ps : List MemPlace}, DataW.LaidVars P w laid ps → ∀ (i : Nat) n d, laid[i]? = some (n, d) →
 ∃ g t cs fuel p, P.globalNamed n = some g ∧ (P.globals[g]?).map (·.type) = some t ∧ w.var? P n = some cs ∧ DataW.trod (fun _ => ()) P w 0 (fun _ => true) false fuel t cs.toList = some (d, p)
 | [], _, _, i, n, d, hi => by simp at hi
 | (m, c) :: r, ps, h, i, n, d, hi => by
   obtain ⟨g, t, cs, fuel, p, q, h1, h2, h3, h4, h5, _⟩ := h
   cases i with
   | zero => simp at hi; obtain ⟨rfl, rfl⟩ := hi; exact ⟨g, t, cs, fuel, p, h1, h2, h3, h4⟩
   | succ i => exact laidVars_at h5 i n d (by simpa using hi)
theorem laid_cell {P : Program} {W : World} {laid : List (String × DataW Unit)} (h : laidMet P laid W) (i : Nat) {n : String} {d : DataW Unit} (hi : laid[i]? = some (n, d)) {g : Nat} {t : TypeId} {vs : List Value}
 (hg : P.globalNamed n = some g) (hty : (P.globals[g]?).map (·.type) = some t) (f : Nat) (hv : lay P f t d = some vs) (j : Nat) (v : Value) (hj : vs[j]? = some v) : W.cell? ⟨g, j, none⟩ = some v := by
 obtain ⟨ps, hL, _⟩ := h
 obtain ⟨g', t', cs, fuel, p, h1, h2, h3, h4⟩ := laidVars_at hL i n d hi
 obtain rfl := Option.some.inj (hg.symm.trans h1)
 obtain rfl := Option.some.inj (hty.symm.trans h2)
 have e := lay_cells P f _ _ _ _ _ _ hv h4
 rw [World.var?_cell h1 h3 j]
 rw [← e] at hj
 simpa using hj
end
end Go.Proofs.YtenffmfklmialaaGreatDoor

namespace Go.Proofs.YtenffmfklmialaaGreatDoor.Co
section
def mapOps (f : Op → Op) : Code → Code
 | .skip => .skip
 | .exit n => .exit n
 | .label n => .label n
 | .goto n => .goto n
 | .ret => .ret
 | .refuse m => .refuse m
 | .region n ops d => .region n (ops.map fun o => { o with op := f o.op }) d
 | .seq a b => .seq (mapOps f a) (mapOps f b)
 | .cond c a b => .cond c (mapOps f a) (mapOps f b)
 | .block n b => .block n (mapOps f b)
 | .loop b => .loop (mapOps f b)
 | .scope b => .scope (mapOps f b)
 | .rangeFunc x ps a b => .rangeFunc x ps (mapOps f a) (mapOps f b)
def tagOp (j : Int) : Op := .entry (.const (.int .i64 j))
def special (nB : FuncId) (nX : FuncId → Bool) : Op → Bool
 | .makeChan _ _ | .go _ | .recv _ _ _ | .panic _ | .send _ _ => true
 | .convert s d _ => s == d
 | .call c => match c.callee with
   | .builtin .close => true
   | .value (.func f) => f == nB || nX f
   | _ => false
 | _ => false
def starOp (nB nC nL : FuncId) (nX : FuncId → Bool) : Op → Op
 | .makeChan _ _ => tagOp 0
 | .go _ => tagOp 1
 | .recv _ _ _ => tagOp 2
 | .panic _ => tagOp 4
 | .send y x => .call { callee := .value (.func nL), args := #[y, x], argTypes := #[] }
 | .convert s d x => if s == d then .call { callee := .value (.func (nL + 1)), args := #[x], argTypes := #[s] } else .convert s d x
 | .call c => match c.callee with
   | .builtin .close => tagOp 3
   | .value (.func f) => if f == nB then .call { callee := .value (.func nC), args := c.args, argTypes := c.argTypes } else if nX f then tagOp 5 else .call c
   | _ => .call c
 | o => o
def starFunc (nB nC nL : FuncId) (nX : FuncId → Bool) (fn : Func) : Func := { fn with body := fn.body.map (mapOps (starOp nB nC nL nX)) }
def starProg (nB nC nL : FuncId) (nX : FuncId → Bool) (P' : Program) (more : Array Func) : Program := { P' with funcs := P'.funcs.map (starFunc nB nC nL nX) ++ more }
end
section
theorem star_at {nB nC nL : FuncId} {nX : FuncId → Bool} {P' : Program} {f : FuncId} {fn fn' : Func} (h : P'.funcs[f]? = some fn) (h2 : starFunc nB nC nL nX fn = fn') : (starProg nB nC nL nX P' #[]).funcs[f]? = some fn' := by
 have hlt := (Array.getElem?_eq_some_iff.1 h).1
 show (P'.funcs.map (starFunc nB nC nL nX) ++ #[])[f]? = _
 rw [Array.getElem?_append_left (by simpa using hlt), Array.getElem?_map, h]
 exact congrArg some h2
theorem call_at {P : Program} {f : FuncId} {fn : Func} (h : P.funcs[f]? = some fn) (h1 : (fn.name == "runtime.NumGoroutine") = false) (h2 : fn.body.isNone = false) (args : Array Value) (w : World) : Sem.run P (callFunc f args) w = .ok (.enter f args) w := by
 unfold callFunc
 rw [Sem.run_bind, run_program]
 dsimp only [Result.andThen]
 rw [h]
 dsimp only
 rw [if_neg (by rw [h1]; decide), if_neg (by rw [h2]; decide)]
 rfl
end
end Go.Proofs.YtenffmfklmialaaGreatDoor.Co
