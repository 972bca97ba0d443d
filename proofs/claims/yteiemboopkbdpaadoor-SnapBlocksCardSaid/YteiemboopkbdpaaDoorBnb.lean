/- Layer 11: which states of a hash of blocks are right. | Structs and arrays by value that are handed in: each of their cells, by its own type. No program is named here. | A state of a hash of blocks (api.Block) by value, handed in: opened. | Layer 11: which states of a hash of blocks are right: Right. | A region that draws its order, by what is kept: one step for each operation, in place of one for each order. No program is named here. | A region that draws its order, by what is kept: values that are known, and slices of bytes that calls have made. No program is named here. | Layer 11: the document's own answers: an algorithm's block; which states are right. | Layer 9: the document's first values: eight words, whatever they are; layer 11: New. | bytes.Buffer at this program: the kit's contract of Write, its table of numbers written out; Bytes; a buffer that is a struct's one field, holding plain bytes. | Layer 3: load: what each call tells. | Layer 3: load: bytes of words, exclusive-or. | The library's iterators over bytes: slices.Chunk, slices.Backward; slices.Reverse. | Layer 3: load: the calls that range over the library's iterators. | slices.Reverse over bytes. -/
import Derived.Test.YteiemboopkbdpaaDoorBna
import Derived.Shelf.RegionOpenPlain
import Derived.OpenShut
import Derived.Test.YteiemboopkbdpaaDoorRows
import Derived.Deep.MidRow
import Derived.RegionTactic
import Derived.StillTail
import Derived.WalkMore
import Derived.Deep.LoopGhost
import Derived.Shelf.Bytes.WriteAt
import Derived.RangeFuncNested
import Derived.RangeFuncBound
import Derived.RangeFuncCalls
import Derived.RangeFuncBox
import Derived.RangeFuncLeaves
import Derived.Shelf.Abstract
import Derived.Shelf.RegionOpen
import Derived.OwnWalkIn
import Derived.TacticsInMore
import Derived.LoopNIn
import Derived.LoopIn
import Derived.Maps.AppendAt
import Derived.Lib.OwnBridge
import Derived.Lib.SlicesMore
import Derived.Sort.WalkB12
section
namespace Go.Proofs.YteiemboopkbdpaaDoor.Mk
open Go.RowKit Rw
set_option linter.unusedVariables false
set_option linter.unusedSimpArgs false
def sz11 (alg : Int) : Nat := if alg = 1 ∨ alg = 2 then 64 else if alg = 3 ∨ alg = 4 ∨ alg = 5 ∨ alg = 6 then 128 else 0
def low32 (h : Nat → Nat) : Bool := (List.range 8).all fun i => ((h i : Nat) : Int) == ((h i % 4294967296 : Nat) : Int)
theorem low32_iff (h : Nat → Nat) : low32 h = true ↔ ∀ i, i < 8 → h i < 4294967296 := by
  unfold low32
  rw [List.all_eq_true]
  constructor
  · intro k i hi
    have := k i (List.mem_range.2 hi)
    rw [beq_iff_eq] at this
    omega
  · intro k i hi
    have := k i (List.mem_range.1 hi)
    rw [beq_iff_eq]
    omega
def right11 (alg : Int) (h : Nat → Nat) (V n : Nat) : Bool :=
  if sz11 alg = 0 then false else (decide (sz11 alg = 128) || low32 h) && (fitsB V (sz11 alg : Nat) && (modC V (sz11 alg : Nat) == (n : Int)))
theorem sz11_cases (alg : Int) : (sz11 alg = 64 ∧ (alg = 1 ∨ alg = 2)) ∨ (sz11 alg = 128 ∧ (alg = 3 ∨ alg = 4 ∨ alg = 5 ∨ alg = 6)) ∨ (sz11 alg = 0 ∧ alg ≠ 1 ∧ alg ≠ 2 ∧ alg ≠ 3 ∧ alg ≠ 4 ∧ alg ≠ 5 ∧ alg ≠ 6) := by
  unfold sz11
  split
  · rename_i h; exact .inl ⟨rfl, h⟩
  · split
    · rename_i h; exact .inr (.inl ⟨rfl, h⟩)
    · exact .inr (.inr ⟨rfl, by omega⟩)
theorem ofShort_any (d : Int) (w : World) : Calls Tryd.prog 62 #[.int .i64 d] w fun e w' => e = .returned (.iface 113 (.agg #[.int .i64 d, .int .i64 64])) ∧ w = w' := by
  go_enter Tryd.func62, Tryd.ntmps62
  go_wp2
  go_ret
  exact ⟨rfl, rfl⟩
theorem ofLong_any (d : Int) (w : World) : Calls Tryd.prog 63 #[.int .i64 d] w fun e w' => e = .returned (.iface 114 (.agg #[.int .i64 d, .int .i64 128])) ∧ w = w' := by
  go_enter Tryd.func63, Tryd.ntmps63
  go_wp2
  go_ret
  exact ⟨rfl, rfl⟩
theorem hashOf_none (n : Int) (w : World) (h : n ≠ 1 ∧ n ≠ 2 ∧ n ≠ 3 ∧ n ≠ 4 ∧ n ≠ 5 ∧ n ≠ 6) : Calls Tryd.prog 45 #[.int .i64 n] w fun e w' => e = .returned (.tuple #[.nilIface, .bool false]) ∧ w = w' := by
  have k1 : (n == 1) = false := by rw [beq_eq_false_iff_ne]; omega
  have k2 : (n == 2) = false := by rw [beq_eq_false_iff_ne]; omega
  have k3 : (n == 3) = false := by rw [beq_eq_false_iff_ne]; omega
  have k4 : (n == 4) = false := by rw [beq_eq_false_iff_ne]; omega
  have k5 : (n == 5) = false := by rw [beq_eq_false_iff_ne]; omega
  have k6 : (n == 6) = false := by rw [beq_eq_false_iff_ne]; omega
  clear h
  go_enter Tryd.func45, Tryd.ntmps45
  go_wp2_with fail
  go_ret2
  exact ⟨rfl, rfl⟩
theorem hashOf_short (n : Int) (w : World) (h : n = 1 ∨ n = 2) : Calls Tryd.prog 45 #[.int .i64 n] w fun e w' => ∃ d : Int, e = .returned (.tuple #[.iface 113 (.agg #[.int .i64 d, .int .i64 64]), .bool true]) ∧ w = w' := by
  rcases h with rfl | rfl
  all_goals
    go_enter Tryd.func45, Tryd.ntmps45
    go_wp2_with (go_at_call 62; refine (ofShort_any _ _).mono ?_; rintro e w1 ⟨rfl, rfl⟩)
    go_ret2
    exact ⟨_, rfl, rfl⟩
theorem hashOf_long (n : Int) (w : World) (h : n = 3 ∨ n = 4 ∨ n = 5 ∨ n = 6) : Calls Tryd.prog 45 #[.int .i64 n] w fun e w' => ∃ d : Int, e = .returned (.tuple #[.iface 114 (.agg #[.int .i64 d, .int .i64 128]), .bool true]) ∧ w = w' := by
  rcases h with rfl | rfl | rfl | rfl
  all_goals
    go_enter Tryd.func45, Tryd.ntmps45
    go_wp2_with (go_at_call 63; refine (ofLong_any _ _).mono ?_; rintro e w1 ⟨rfl, rfl⟩)
    go_ret2
    exact ⟨_, rfl, rfl⟩
section
attribute [local go_sem ↓] load8k store8k zero8k load8v store8v zero8v
attribute [local go_sem] run_load8k run_store8k run_load8v run_store8v
set_option maxRecDepth 100000 in
set_option maxHeartbeats 1000000 in
theorem holdsShort_any (d : Int) (h : Nat → Nat) (hh : ∀ i, h i < 18446744073709551616) (w : World) :
    Calls Tryd.prog 122 #[.agg #[.int .i64 d, .int .i64 64], .agg (uTab 8 h)] w fun e w' => e = .returned (.bool (low32 h)) ∧ Below w.heap.size w w' := by
  have C1 := Lib.hid (fun W => narrowed_any h hh W)
  have C2 := Lib.hid (fun W => widened_any (fun i => h i % 4294967296) (fun i => Nat.mod_lt _ (by omega)) W)
  obtain ⟨i0, hi0⟩ : ∃ i, Tryd.prog.info? 22 = some i := Option.isSome_iff_exists.1 (by kernel_rfl)
  have HQ := Lib.hid (fun W => equalIn_arrs (P := Tryd.prog) (k := .u64) W Tryd.underlying23 Tryd.underlying22 hi0 (by kernel_rfl) (fun i => ((h i : Nat) : Int)) (fun i => ((h i % 4294967296 : Nat) : Int)) (n := 8))
  have HL : Hid (∀ W, (Op.equalIn 10000 23 (.agg (uTab 8 h)) (.agg (uTab 8 fun i => h i % 4294967296))).run Tryd.prog W = .ok (low32 h) W) := fun W => HQ.out W
  obtain ⟨n1, hn1⟩ : ∃ o, o = Obj.cells #[.int .i64 d, .int .i64 64] 113 := ⟨_, rfl⟩
  have H0 : Hid (Hold ((w.alloc n1).alloc (.cells (uTab 8 h) 23)).drew (w.heap.size + 1) 8 (uTab 8 h)) := (Hold.new1 w _ (uTab 8 h) _ 8 (uTab_size _ _)).drew
  have HB := Lib.hid (below_drew (((Below.refl _ w).alloc (Nat.le_refl _) n1).alloc (by simp) (.cells (uTab 8 h) 23)))
  have q0 := H0.out.load (T := 23) Tryd.underlying23 rfl (by kernel_rfl)
  rw [hn1] at H0 q0 HB
  clear hn1 HQ
  generalize low32 h = b at *
  go_enter Tryd.func122, Tryd.ntmps122
  go_wp2_with fail
  go_region_law (first
    | (go_simp
       go_at_call 125
       (with_reducible refine (C1.out _).mono ?_)
       rintro e u1 ⟨rfl, hb1⟩
       have H1 := Lib.hid (H0.out.call hb1)
       have q1 := H1.out.load (T := 23) Tryd.underlying23 rfl (by kernel_rfl)
       have HB1 := Lib.hid (HB.out.trans (hb1.mono HB.out.size))
       clear hb1)
    | (go_simp
       go_at_call 124
       (with_reducible refine (C2.out _).mono ?_)
       rintro e u2 ⟨rfl, hb2⟩
       have H2 := Lib.hid (H1.out.call hb2)
       have q2 := H2.out.load (T := 23) Tryd.underlying23 rfl (by kernel_rfl)
       have q3 := HL.out u2
       have HB2 := Lib.hid (HB1.out.trans (hb2.mono HB1.out.size))
       clear hb2))
  all_goals
    go_wp2_with fail
    go_ret
    exact ⟨rfl, HB2.out⟩
end
end Go.Proofs.YteiemboopkbdpaaDoor.Mk
end

section
namespace Go.Proofs.YteiemboopkbdpaaDoor
open Go.ChangeShapes Go.WideShapes Go.ChangeAt Go.RowKit
set_option linter.unusedVariables false
set_option linter.unusedSimpArgs false
def cellTy (P : Program) : Nat → TypeId → Nat → Option TypeId
  | 0, _, _ => none
  | d + 1, t, o => match P.underlying t with
    | some (.struct fs) => fs.toList.findSome? fun f => if f.offset ≤ o ∧ o < f.offset + P.cellsOf f.type then cellTy P d f.type (o - f.offset) else none
    | some (.array n e) => if P.cellsOf e = 0 then none else if o / P.cellsOf e < n then cellTy P d e (o % P.cellsOf e) else none
    | some _ => if o = 0 then some t else none
    | none => none
theorem at_take {α : Type} {l : List α} {k o : Nat} {c : α} (h : (l.take k)[o]? = some c) : l[o]? = some c := by
  rw [List.getElem?_take] at h
  split at h
  · exact h
  · cases h
section
variable {P : Program} {H : Type} {enc : TypeId × Value → H} {w : World} {base : Nat} {spare : Nat → Bool} {held : Bool}
theorem trod_one {t : TypeId} {d : TypeDesc} {fuel : Nat} {cs : List Value} {x : DataW H × List MemPlace} (hu : P.underlying t = some d) (h1 : ∀ fs, d ≠ .struct fs) (h2 : ∀ n e, d ≠ .array n e) (h : DataW.trod enc P w base spare held fuel t cs = some x) : ∃ c, cs = [c] := by
  cases fuel with
  | zero => simp [DataW.trod] at h
  | succ n =>
    unfold DataW.trod at h
    rw [hu] at h
    cases d with
    | struct fs => exact absurd rfl (h1 fs)
    | array n e => exact absurd rfl (h2 n e)
    | _ =>
      match cs, h with
      | [c], _ => exact ⟨c, rfl⟩
      | [], h => simp at h
      | a :: b :: l, h => simp at h
theorem trod_cell : ∀ (d : Nat) {t u : TypeId} {o : Nat} {fuel : Nat} {cs : List Value} {x : DataW H × List MemPlace}, cellTy P d t o = some u → DataW.trod enc P w base spare held fuel t cs = some x →
    ∃ n y c, cs[o]? = some c ∧ DataW.trod enc P w base spare held n u [c] = some y
  | 0, _, _, _, _, _, _, h, _ => by simp [cellTy] at h
  | d + 1, t, u, o, fuel, cs, x, h, ht => by
    unfold cellTy at h
    split at h
    · rename_i fs hu
      obtain ⟨f, hf, h2⟩ := List.exists_of_findSome?_eq_some h
      split at h2
      · rename_i hr
        obtain ⟨xs, n, rfl, rfl, _, hxl, hx⟩ := DataW.trod_struct hu ht
        obtain ⟨i, hi, e⟩ := List.getElem_of_mem hf
        have hfi : fs[i]? = some f := by rw [← Array.getElem?_toList, List.getElem?_eq_getElem hi, e]
        have h3 := hx i f hfi
        have hix : i < xs.length := by rw [hxl]; simpa using hi
        rw [List.getElem?_eq_getElem hix] at h3
        obtain ⟨n2, y2, c, hc, hy⟩ := trod_cell d h2 h3
        refine ⟨n2, y2, c, ?_, hy⟩
        have h4 := at_take hc
        rw [List.getElem?_drop] at h4
        rw [← h4]
        congr 1
        omega
      · cases h2
    · rename_i n e hu
      by_cases h0 : P.cellsOf e = 0
      · rw [if_pos h0] at h; cases h
      rw [if_neg h0] at h
      split at h
      · rename_i hr
        obtain ⟨xs, m, rfl, rfl, _, hxl, hx⟩ := DataW.trod_array hu ht
        have h3 := hx _ hr
        rw [List.getElem?_eq_getElem (by omega)] at h3
        obtain ⟨n2, y2, c, hc, hy⟩ := trod_cell d h h3
        refine ⟨n2, y2, c, ?_, hy⟩
        have h4 := at_take hc
        rw [List.getElem?_drop] at h4
        rw [← h4]
        congr 1
        rw [Nat.mul_comm]
        exact (Nat.div_add_mod _ _).symm
      · cases h
    · rename_i dd hn hm hu
      split at h
      · rename_i hr
        cases h
        subst hr
        obtain ⟨c, rfl⟩ := trod_one hu (fun fs e => hn fs e) (fun n e e2 => hm n e e2) ht
        exact ⟨fuel, x, c, rfl, ht⟩
      · cases h
    · cases h
theorem trod_bool1 {t : TypeId} {fuel : Nat} {c : Value} {x : DataW H × List MemPlace} (hu : P.underlying t = some .bool) (h : DataW.trod enc P w base spare held fuel t [c] = some x) : ∃ b, c = .bool b := by
  cases fuel with
  | zero => simp [DataW.trod] at h
  | succ n =>
    unfold DataW.trod at h
    rw [hu] at h
    cases c <;> first | exact ⟨_, rfl⟩ | (simp at h)
theorem trod_int1 {t : TypeId} {k : IntKind} {fuel : Nat} {c : Value} {x : DataW H × List MemPlace} (hu : P.underlying t = some (.int k)) (h : DataW.trod enc P w base spare held fuel t [c] = some x) : ∃ n, c = .int k n ∧ (Lit.int k n).wf = true := by
  obtain ⟨n, h1, _, h3⟩ := DataW.trod_int hu h
  exact ⟨n, by simpa using h1, h3⟩
theorem trod_int_at {d : Nat} {t u : TypeId} {k : IntKind} {o fuel : Nat} {cs : List Value} {x : DataW H × List MemPlace} (h : cellTy P d t o = some u) (hu : P.underlying u = some (.int k)) (ht : DataW.trod enc P w base spare held fuel t cs = some x) : ∃ n, cs[o]? = some (.int k n) ∧ (Lit.int k n).wf = true := by
  obtain ⟨n, y, c, h1, h2⟩ := trod_cell d h ht
  obtain ⟨m, rfl, h3⟩ := trod_int1 hu h2
  exact ⟨m, h1, h3⟩
theorem trod_u64_at {d : Nat} {t u : TypeId} {o fuel : Nat} {cs : List Value} {x : DataW H × List MemPlace} (h : cellTy P d t o = some u) (hu : P.underlying u = some (.int .u64)) (ht : DataW.trod enc P w base spare held fuel t cs = some x) : ∃ n : Nat, cs[o]? = some (.int .u64 (n : Int)) ∧ n < 18446744073709551616 := by
  obtain ⟨n, h1, h2⟩ := trod_int_at h hu ht
  obtain ⟨b0, b1⟩ := bounds_u64 h2
  obtain ⟨m, rfl⟩ := Int.eq_ofNat_of_zero_le b0
  exact ⟨m, h1, by omega⟩
theorem trod_bool_at {d : Nat} {t u : TypeId} {o fuel : Nat} {cs : List Value} {x : DataW H × List MemPlace} (h : cellTy P d t o = some u) (hu : P.underlying u = some .bool) (ht : DataW.trod enc P w base spare held fuel t cs = some x) : ∃ b, cs[o]? = some (.bool b) := by
  obtain ⟨n, y, c, h1, h2⟩ := trod_cell d h ht
  obtain ⟨b, rfl⟩ := trod_bool1 hu h2
  exact ⟨b, h1⟩
end
section
variable {P : Program} {H : Type} {enc : TypeId × Value → H} {w : World} {base : Nat} {held : Bool}
theorem trod_bytes_at {d : Nat} {t u e : TypeId} {o fuel : Nat} {cs : List Value} {x : DataW H × List MemPlace} (h : cellTy P d t o = some u) (hu : P.underlying u = some (.slice e)) (he : P.underlying e = some (.int .u8)) (hc : P.cellsOf e = 1) (ht : DataW.trod enc P w base (fun _ => true) held fuel t cs = some x) :
    ∃ A c xs, cs[o]? = some (.slice A xs.length c) ∧ (∀ x ∈ xs, x < 256) ∧ xs.length ≤ c ∧ c ≤ maxLen ∧ Words .u8 w A xs := by
  obtain ⟨n, y, c, h1, h2⟩ := trod_cell d h ht
  obtain ⟨A, l, c, zs, rfl, wr⟩ : ∃ A l c' zs, c = .slice A l c' ∧ IsRow .u8 w A l c' zs := by
    rcases open_ints hu he hc h2 with ⟨hcs, _⟩ | ⟨x, l, c, zs, hcs, _, hl, hm, hz, _, hcell, hwz⟩
    · exact ⟨none, 0, 0, [], by simpa using hcs, .inl ⟨rfl, rfl, rfl, rfl⟩⟩
    · exact ⟨some x, l, c, zs, by simpa using hcs, .inr ⟨_, rfl, hl, hm, by simpa using hz, hcell, hwz⟩⟩
  have hcap : l ≤ c ∧ c ≤ maxLen := by
    rcases wr with ⟨_, rfl, rfl, _⟩ | ⟨_, _, h1, h2, _⟩
    · exact ⟨Nat.le_refl _, Nat.zero_le _⟩
    · exact ⟨h1, h2⟩
  obtain ⟨xs, rfl, q1, q2, q3⟩ := words_of_row (fun n h => bounds_u8 h) wr
  exact ⟨A, c, xs, h1, fun x h => by have := q1 x h; omega, hcap.1, hcap.2, q3⟩
end
end Go.Proofs.YteiemboopkbdpaaDoor
end

section
namespace Go.Proofs.YteiemboopkbdpaaDoor
open Go.ChangeShapes Go.WideShapes Go.ChangeAt Go.RowKit
set_option linter.unusedVariables false
set_option linter.unusedSimpArgs false
def blkV (alg : Int) (h : Nat → Nat) (hi lo : Nat) (s : Value) (fl : Bool) : Array Value := #[.int .i64 alg, .int .u64 (h 0 : Nat), .int .u64 (h 1 : Nat), .int .u64 (h 2 : Nat), .int .u64 (h 3 : Nat), .int .u64 (h 4 : Nat), .int .u64 (h 5 : Nat), .int .u64 (h 6 : Nat), .int .u64 (h 7 : Nat), .int .u64 (hi : Nat), .int .u64 (lo : Nat), s, .bool fl]
set_option maxRecDepth 100000 in
theorem open_blk {H : Type} {enc : TypeId × Value → H} {W : World} {r : Go.Reach} {b base : Nat} {held : Bool} {v : Value} {d : DataW H} {p : List MemPlace} (hv : Value.okWide Tryd.prog W r b 28 v) (h : DataW.Trod enc Tryd.prog W base (fun _ => true) held 28 v d p) :
    ∃ (alg : Int) (hf : Nat → Nat) (hi lo : Nat) (A : Option Addr) (c : Nat) (xs : List Nat) (fl : Bool), v = .agg (blkV alg hf hi lo (.slice A xs.length c) fl) ∧ (∀ i, hf i < 18446744073709551616) ∧ hi < 18446744073709551616 ∧ lo < 18446744073709551616 ∧
      (∀ x ∈ xs, x < 256) ∧ xs.length ≤ c ∧ c ≤ maxLen ∧ Words .u8 W A xs ∧ (Lit.int .i64 alg).wf = true := by
  obtain ⟨cs, rfl, hsz⟩ := okWide_struct Tryd.underlying28 hv
  have h13 : cs.size = 13 := hsz.trans (by kernel_rfl)
  obtain ⟨fuel, hf⟩ := h
  have hf : DataW.trod enc Tryd.prog W base (fun _ => true) held fuel 28 cs.toList = some (d, p) := hf
  obtain ⟨alg, e0, w0⟩ := trod_int_at (d := 6) (o := 0) (by kernel_rfl) Tryd.underlying3 hf
  have cb : ((List.range 8).all fun i => cellTy Tryd.prog 6 28 (1 + i) == some 22) = true := by kernel_rfl
  have ct : ∀ i, i < 8 → cellTy Tryd.prog 6 28 (1 + i) = some 22 := fun i hi => by simpa using List.all_eq_true.1 cb i (List.mem_range.2 hi)
  have e1 : ∀ i, i < 8 → ∃ n : Nat, cs.toList[1 + i]? = some (.int .u64 (n : Int)) ∧ n < 18446744073709551616 := fun i hi => trod_u64_at (ct i hi) Tryd.underlying22 hf
  obtain ⟨hi, e9, w9⟩ := trod_u64_at (d := 6) (o := 9) (u := 22) (by kernel_rfl) Tryd.underlying22 hf
  obtain ⟨lo, e10, w10⟩ := trod_u64_at (d := 6) (o := 10) (u := 22) (by kernel_rfl) Tryd.underlying22 hf
  obtain ⟨A, c, xs, e11, q1, q2, q3, q4⟩ := trod_bytes_at (d := 6) (o := 11) (u := 26) (e := 5) (by kernel_rfl) Tryd.underlying26 Tryd.underlying5 (by kernel_rfl) hf
  obtain ⟨fl, e12⟩ := trod_bool_at (d := 6) (o := 12) (u := 4) (by kernel_rfl) Tryd.underlying4 hf
  have eh : ∀ i, i < 8 → cs.toList[1 + i]? = some (.int .u64 (((match cs.toList[1 + i]? with | some (.int _ n) => n.toNat | _ => 0) : Nat) : Int)) ∧ (match cs.toList[1 + i]? with | some (.int _ n) => n.toNat | _ => 0) < 18446744073709551616 := fun i hi => by
    obtain ⟨n, hn, hl⟩ := e1 i hi
    rw [hn]
    exact ⟨by simp, by simpa using hl⟩
  refine ⟨alg, fun i => if i < 8 then (match cs.toList[1 + i]? with | some (.int _ n) => n.toNat | _ => 0) else 0, hi, lo, A, c, xs, fl, ?_, fun i => ?_, w9, w10, q1, q2, q3, q4, w0⟩
  · congr 1
    apply Array.ext_getElem?
    intro i
    rw [← Array.getElem?_toList]
    unfold blkV
    match i with
    | 0 => rw [e0]; rfl
    | 1 => rw [show (1 : Nat) = 1 + 0 from rfl, (eh 0 (by omega)).1]; rfl
    | 2 => rw [show (2 : Nat) = 1 + 1 from rfl, (eh 1 (by omega)).1]; rfl
    | 3 => rw [show (3 : Nat) = 1 + 2 from rfl, (eh 2 (by omega)).1]; rfl
    | 4 => rw [show (4 : Nat) = 1 + 3 from rfl, (eh 3 (by omega)).1]; rfl
    | 5 => rw [show (5 : Nat) = 1 + 4 from rfl, (eh 4 (by omega)).1]; rfl
    | 6 => rw [show (6 : Nat) = 1 + 5 from rfl, (eh 5 (by omega)).1]; rfl
    | 7 => rw [show (7 : Nat) = 1 + 6 from rfl, (eh 6 (by omega)).1]; rfl
    | 8 => rw [show (8 : Nat) = 1 + 7 from rfl, (eh 7 (by omega)).1]; rfl
    | 9 => rw [e9]; rfl
    | 10 => rw [e10]; rfl
    | 11 => rw [e11]; rfl
    | 12 => rw [e12]; rfl
    | i + 13 => rw [List.getElem?_eq_none (by simp; omega)]; rfl
  · dsimp only
    split
    · exact (eh i (by assumption)).2
    · omega
end Go.Proofs.YteiemboopkbdpaaDoor
end

section
namespace Go.Proofs.YteiemboopkbdpaaDoor.Mk
open Go.RowKit Rw
set_option linter.unusedVariables false
set_option linter.unusedSimpArgs false
theorem blk_count {W : World} {n : Nat} {alg : Int} {h : Nat → Nat} {hi lo : Nat} {s : Value} {fl : Bool} (H : Hold W n 13 (blkV alg h hi lo s fl)) :
    (loadRow 25 (.pointer (some ⟨n, 9, none⟩))).run Tryd.prog W = .ok (.agg #[.int .u64 (hi : Nat), .int .u64 (lo : Nat)]) W :=
  run_loadAt_mid W n 9 25 [.int .u64 (hi : Nat), .int .u64 (lo : Nat)] _ (fun j v hj => by
    match j, hj with
    | 0, hj => exact H.cell hj
    | 1, hj => exact H.cell hj) Tryd.underlying25 rfl (by kernel_rfl)
set_option maxRecDepth 100000 in
set_option maxHeartbeats 1000000 in
theorem leaves_any (d s : Int) (s0 : -9223372036854775808 ≤ s) (s1 : s ≤ 9223372036854775807) (hi lo : Nat) (hh : hi < 18446744073709551616) (hl : lo < 18446744073709551616) (n : Nat) (w : World) :
    Calls Tryd.prog 111 #[.agg #[.int .i64 d, .int .i64 s], .agg #[.int .u64 (hi : Nat), .int .u64 (lo : Nat)], .int .i64 (n : Nat)] w
      fun e w' => e = .returned (.bool (fitsB (numC hi lo) s && (modC (numC hi lo) s == (n : Int)))) ∧ Below w.heap.size w w' := by
  have C1 := Lib.hid (fun W => fits_any hi lo hh hl s W)
  have C2 := Lib.hid (fun W => mod_any hi lo hh hl s s0 s1 W)
  obtain ⟨o1, ho1⟩ : ∃ o, o = Obj.cells #[.int .i64 d, .int .i64 s] 111 := ⟨_, rfl⟩
  have H0 : Hid (Hold ((w.alloc (.cells #[.int .i64 d, .int .i64 s] 111)).alloc (.cells #[.int .u64 (hi : Nat), .int .u64 (lo : Nat)] 25)) w.heap.size 2 #[.int .i64 d, .int .i64 s]) := (Hold.new w _ _ 2 rfl).past _
  have H1 : Hid (Hold ((w.alloc (.cells #[.int .i64 d, .int .i64 s] 111)).alloc (.cells #[.int .u64 (hi : Nat), .int .u64 (lo : Nat)] 25)) (w.heap.size + 1) 2 #[.int .u64 (hi : Nat), .int .u64 (lo : Nat)]) := Hold.new1 w _ _ _ 2 rfl
  have HB := Lib.hid (((Below.refl _ w).alloc (Nat.le_refl _) (.cells #[.int .i64 d, .int .i64 s] 111)).alloc (by simp) (.cells #[.int .u64 (hi : Nat), .int .u64 (lo : Nat)] 25))
  clear hh hl s0 s1 ho1
  generalize modC (numC hi lo) s = m at *
  cases hb : fitsB (numC hi lo) s with
  | false =>
    rw [hb] at C1
    clear hb
    go_enter Tryd.func111, Tryd.ntmps111
    go_wp2_with (go_at_call 114; (with_reducible refine (C1.out _).mono ?_); rintro e u1 ⟨rfl, hb1⟩; have HB1 := Lib.hid (HB.out.trans (hb1.mono HB.out.size)); clear hb1)
    go_ret
    exact ⟨rfl, HB1.out⟩
  | true =>
    rw [hb] at C1
    clear hb
    go_enter Tryd.func111, Tryd.ntmps111
    go_wp2_with (first
      | (go_at_call 114; ((with_reducible refine (C1.out _).mono ?_); rintro e u1 ⟨rfl, hb1⟩; have HB1 := Lib.hid (HB.out.trans (hb1.mono HB.out.size)); have G0 := Lib.hid (H0.out.call hb1); have G1 := Lib.hid (H1.out.call hb1); have q1 : u1.cell? ⟨w.heap.size, 1, none⟩ = some (.int .i64 s) := G0.out.cell rfl; have q2 := G1.out.load (T := 25) Tryd.underlying25 rfl (by kernel_rfl); clear hb1))
      | (go_at_call 115; ((with_reducible refine (C2.out _).mono ?_); rintro e u2 ⟨rfl, hb2⟩; have HB2 := Lib.hid (HB1.out.trans (hb2.mono HB1.out.size)); clear hb2)))
    go_ret
    exact ⟨rfl, HB2.out⟩
theorem holdsLong_any (d : Int) (h : Nat → Nat) (w : World) : Calls Tryd.prog 127 #[.agg #[.int .i64 d, .int .i64 128], .agg (uTab 8 h)] w fun e w' => e = .returned (.bool true) ∧ Below w.heap.size w w' := by
  have HB := Lib.hid (fun o => ((Below.refl _ w).alloc (Nat.le_refl _) (.cells #[.int .i64 d, .int .i64 128] 114)).alloc (by simp) o)
  go_enter Tryd.func127, Tryd.ntmps127
  go_wp2
  go_ret
  exact ⟨rfl, HB.out _⟩
theorem inv_holdsS (k : Nat) (x : Value) (W : World) : (method (k + 1) 113 x "cribble/merkle.holds").run Tryd.prog W = .ok (122, x) W := by kernel_rfl
theorem inv_holdsL (k : Nat) (x : Value) (W : World) : (method (k + 1) 114 x "cribble/merkle.holds").run Tryd.prog W = .ok (127, x) W := by kernel_rfl
theorem inv_leavesS (k : Nat) (a b : Value) (W : World) : (method (k + 1) 113 (.agg #[a, b]) "cribble/merkle.leaves").run Tryd.prog W = .ok (111, .agg #[a, b]) W := by kernel_rfl
theorem inv_leavesL (k : Nat) (a b : Value) (W : World) : (method (k + 1) 114 (.agg #[a, b]) "cribble/merkle.leaves").run Tryd.prog W = .ok (111, .agg #[a, b]) W := by kernel_rfl
section
attribute [local go_sem] inv_holdsS inv_holdsL inv_leavesS inv_leavesL
theorem uTab8 (h : Nat → Nat) : (#[.int .u64 (h 0 : Nat), .int .u64 (h 1 : Nat), .int .u64 (h 2 : Nat), .int .u64 (h 3 : Nat), .int .u64 (h 4 : Nat), .int .u64 (h 5 : Nat), .int .u64 (h 6 : Nat), .int .u64 (h 7 : Nat)] : Array Value) = uTab 8 h := rfl
set_option maxRecDepth 100000 in
set_option maxHeartbeats 1000000 in
theorem right11_any (alg : Int) (h : Nat → Nat) (hh : ∀ i, h i < 18446744073709551616) (hi lo : Nat) (hhi : hi < 18446744073709551616) (hl : lo < 18446744073709551616) (A : Option Addr) (n c : Nat) (fl : Bool) (w : World) :
    Calls Tryd.prog 21 #[.agg (blkV alg h hi lo (.slice A n c) fl)] w fun e w' => e = .returned (.bool (right11 alg h (numC hi lo) n)) ∧ Below w.heap.size w w' := by
  unfold right11
  rcases sz11_cases alg with ⟨hs, ha⟩ | ⟨hs, ha⟩ | ⟨hs, ha⟩
  · rw [hs]
    have CS := Lib.hid (fun d W => holdsShort_any d h hh W)
    have CH := Lib.hid (fun W => hashOf_short alg W ha)
    have CL := Lib.hid (fun d W => leaves_any d 64 (by omega) (by omega) hi lo hhi hl n W)
    have H0 : Hid (Hold (w.alloc (.cells (blkV alg h hi lo (.slice A n c) fl) 28)) w.heap.size 13 (blkV alg h hi lo (.slice A n c) fl)) := Hold.new w _ _ 13 rfl
    have HB := Lib.hid ((Below.refl _ w).alloc (Nat.le_refl _) (.cells (blkV alg h hi lo (.slice A n c) fl) 28))
    unfold blkV at *
    clear ha hs hh hhi hl
    rw [if_neg (by decide), show ((64 : Nat) : Int) = 64 from rfl]
    generalize (fitsB (numC hi lo) 64 && (modC (numC hi lo) 64 == (n : Int))) = z at *
    rw [show (decide ((64 : Nat) = 128) || low32 h) = low32 h from by simp]
    cases hb : low32 h with
    | false =>
      rw [hb] at CS
      clear hb
      go_enter Tryd.func21, Tryd.ntmps21
      go_wp2_with (first
        | (go_at_call 45; ((with_reducible refine (CH.out _).mono ?_); rintro e u1 ⟨d, rfl, rfl⟩))
        | (go_at_call 122; (rw [uTab8]; (with_reducible refine (CS.out d _).mono ?_); rintro e u2 ⟨rfl, hb2⟩; have HB2 := Lib.hid (HB.out.trans (hb2.mono HB.out.size)); have G := Lib.hid (H0.out.call hb2); have q1 := blk_count G.out; have q3 : u2.cell? ⟨w.heap.size, 11, none⟩ = some (.slice A n c) := G.out.cell rfl; clear hb2))
        | (go_at_call 111; ((with_reducible refine (CL.out d _).mono ?_); rintro e u3 ⟨rfl, hb3⟩; have HB3 := Lib.hid (HB2.out.trans (hb3.mono HB2.out.size)); clear hb3)))
      go_ret
      refine ⟨?_, HB2.out⟩
      simp
    | true =>
      rw [hb] at CS
      clear hb
      go_enter Tryd.func21, Tryd.ntmps21
      go_wp2_with (first
        | (go_at_call 45; ((with_reducible refine (CH.out _).mono ?_); rintro e u1 ⟨d, rfl, rfl⟩))
        | (go_at_call 122; (rw [uTab8]; (with_reducible refine (CS.out d _).mono ?_); rintro e u2 ⟨rfl, hb2⟩; have HB2 := Lib.hid (HB.out.trans (hb2.mono HB.out.size)); have G := Lib.hid (H0.out.call hb2); have q1 := blk_count G.out; have q3 : u2.cell? ⟨w.heap.size, 11, none⟩ = some (.slice A n c) := G.out.cell rfl; clear hb2))
        | (go_at_call 111; ((with_reducible refine (CL.out d _).mono ?_); rintro e u3 ⟨rfl, hb3⟩; have HB3 := Lib.hid (HB2.out.trans (hb3.mono HB2.out.size)); clear hb3)))
      go_ret
      refine ⟨?_, HB3.out⟩
      simp
  · rw [hs]
    have CS := Lib.hid (fun d W => holdsLong_any d h W)
    have CH := Lib.hid (fun W => hashOf_long alg W ha)
    have CL := Lib.hid (fun d W => leaves_any d 128 (by omega) (by omega) hi lo hhi hl n W)
    have H0 : Hid (Hold (w.alloc (.cells (blkV alg h hi lo (.slice A n c) fl) 28)) w.heap.size 13 (blkV alg h hi lo (.slice A n c) fl)) := Hold.new w _ _ 13 rfl
    have HB := Lib.hid ((Below.refl _ w).alloc (Nat.le_refl _) (.cells (blkV alg h hi lo (.slice A n c) fl) 28))
    unfold blkV at *
    clear ha hs hh hhi hl
    rw [if_neg (by decide), show ((128 : Nat) : Int) = 128 from rfl]
    generalize (fitsB (numC hi lo) 128 && (modC (numC hi lo) 128 == (n : Int))) = z at *
    rw [show (decide ((128 : Nat) = 128) || low32 h) = true from by simp]
    go_enter Tryd.func21, Tryd.ntmps21
    go_wp2_with (first
      | (go_at_call 45; ((with_reducible refine (CH.out _).mono ?_); rintro e u1 ⟨d, rfl, rfl⟩))
      | (go_at_call 127; (rw [uTab8]; (with_reducible refine (CS.out d _).mono ?_); rintro e u2 ⟨rfl, hb2⟩; have HB2 := Lib.hid (HB.out.trans (hb2.mono HB.out.size)); have G := Lib.hid (H0.out.call hb2); have q1 := blk_count G.out; have q3 : u2.cell? ⟨w.heap.size, 11, none⟩ = some (.slice A n c) := G.out.cell rfl; clear hb2))
      | (go_at_call 111; ((with_reducible refine (CL.out d _).mono ?_); rintro e u3 ⟨rfl, hb3⟩; have HB3 := Lib.hid (HB2.out.trans (hb3.mono HB2.out.size)); clear hb3)))
    go_ret
    refine ⟨?_, HB3.out⟩
    simp
  · rw [hs]
    have CH := Lib.hid (fun W => hashOf_none alg W ha)
    clear ha hs
    have HB := Lib.hid ((Below.refl _ w).alloc (Nat.le_refl _) (.cells (blkV alg h hi lo (.slice A n c) fl) 28))
    unfold blkV at *
    go_enter Tryd.func21, Tryd.ntmps21
    go_wp2_with (go_at_call 45; (with_reducible refine (CH.out _).mono ?_); rintro e u1 ⟨rfl, rfl⟩)
    go_ret
    exact ⟨rfl, HB.out⟩
end
end Go.Proofs.YteiemboopkbdpaaDoor.Mk
end

section
namespace Go.Proofs.YteiemboopkbdpaaDoor.Rw
open Go.RowKit
set_option linter.unusedVariables false
set_option linter.unusedSimpArgs false
def updB (L : Nat → Bool) (i : Nat) : Nat → Bool := fun j => if j = i then true else L j
def updS (s : Nat → Value) : Option Nat → Value → Nat → Value
  | none, _ => s
  | some d, v => fun j => if j = d then v else s j
def depsOk (ops : Array Oper) (deps : List (List Nat)) : Bool :=
  (List.range ops.size).all fun i => match ops[i]? with
    | some o => ((deps.getD i []).all fun d => o.after.any fun e => Region.binds .any e && e.on == d) && o.after.all fun e => !Region.binds .any e || decide (e.on < i)
    | none => false
section
variable {P : Program} {ops : Array Oper} {Q : Exit → Act → World → Prop} {deps : List (List Nat)}
theorem depsOk_spec (h : depsOk ops deps = true) {i : Nat} {o : Oper} (ho : ops[i]? = some o) :
    (∀ d ∈ deps.getD i [], ∃ e ∈ o.after, Region.binds .any e = true ∧ e.on = d) ∧ ∀ e ∈ o.after, Region.binds .any e = true → e.on < i := by
  have hi : i < ops.size := (Array.getElem?_eq_some_iff.1 ho).1
  have := List.all_eq_true.1 h i (List.mem_range.2 hi)
  rw [ho] at this
  simp only [Bool.and_eq_true] at this
  refine ⟨fun d hd => ?_, fun e he hb => ?_⟩
  · obtain ⟨e, he, h2⟩ := Array.any_eq_true'.1 (List.all_eq_true.1 this.1 d hd)
    simp only [Bool.and_eq_true, beq_iff_eq] at h2
    exact ⟨e, he, h2.1, h2.2⟩
  · have h3 := Array.all_eq_true'.1 this.2 e he
    simpa [hb] using h3
theorem filter_set : ∀ (l : List Bool) (i : Nat), l[i]? = some false → ((l.set i true).filter (!·)).length + 1 = (l.filter (!·)).length
  | [], i, h => by simp at h
  | b :: l, 0, h => by
    simp at h
    subst h
    simp
  | b :: l, i + 1, h => by
    have ih := filter_set l i (by simpa using h)
    cases b <;> simp_all
theorem filter_none : ∀ (l : List Bool), (l.filter (!·)).length = 0 → ∀ (i : Nat) (b : Bool), l[i]? = some b → b = true
  | [], _, i, b, h => by simp at h
  | c :: l, h0, i, b, h => by
    cases c
    · simp at h0
    · cases i with
      | zero => simp at h; exact h
      | succ i => exact filter_none l (by simpa using h0) i b (by simpa using h)
theorem wpAny_inv (hd : depsOk ops deps = true) (J : (Nat → Bool) → Act → World → Prop)
    (hstep : ∀ (L : Nat → Bool) a w i o, ops[i]? = some o → J L a w → L i = false → (∀ d ∈ deps.getD i [], L d = true) →
      ∀ K : Act → World → Prop, (∀ a' w', J (updB L i) a' w' → K a' w') → if Region.wanted o (yielded ops a.tmps) = true then Oper.wp P o a w K Q else K (a.put o.dst undef) w)
    (hfin : ∀ (L : Nat → Bool) a w, (∀ i, i < ops.size → L i = true) → J L a w → Q .normal a w) :
    ∀ (fuel : Nat) (listed : Array Bool) (a : Act) (w : World), listed.size = ops.size → (listed.toList.filter (!·)).length ≤ fuel → J (fun i => listed.getD i false) a w → wpAny P .any ops Q fuel listed a w := by
  have done : ∀ (listed : Array Bool) (a : Act) (w : World), listed.size = ops.size → J (fun i => listed.getD i false) a w → Region.ready .any ops listed = [] → Q .normal a w := by
    intro listed a w hs hJ hr
    refine hfin _ a w (fun i => ?_) hJ
    induction i using Nat.strongRecOn with
    | _ i ih =>
      intro hi
      show listed.getD i false = true
      by_cases hl : listed.getD i false = true
      · exact hl
      · exfalso
        have hl2 : listed.getD i true = false := getD_in (by omega) (by simpa using hl)
        obtain ⟨o, ho⟩ : ∃ o, ops[i]? = some o := ⟨_, Array.getElem?_eq_getElem hi⟩
        have hm : i ∈ Region.ready .any ops listed := mem_ready.2 ⟨hl2, o, ho, fun e he hb => by
          have hlt := (depsOk_spec hd ho).2 e he hb
          exact ih e.on hlt (by omega)⟩
        rw [hr] at hm
        cases hm
  intro fuel
  induction fuel with
  | zero =>
    intro listed a w hs hc hJ
    have hr : Region.ready .any ops listed = [] := by
      rw [List.eq_nil_iff_forall_not_mem]
      intro i hi
      obtain ⟨h1, o, ho, _⟩ := mem_ready.1 hi
      have hlt : i < listed.size := by rw [hs]; exact (Array.getElem?_eq_some_iff.1 ho).1
      have h2 : listed.toList[i]? = some false := by
        rw [Array.getElem?_toList, Array.getElem?_eq_getElem hlt]
        simpa [hlt] using h1
      have := filter_none _ (by omega) i false h2
      cases this
    exact ⟨hr, done listed a w hs hJ hr⟩
  | succ fuel ih =>
    intro listed a w hs hc hJ
    refine ⟨done listed a w hs hJ, fun i hi => ?_⟩
    obtain ⟨h1, o, ho, hall⟩ := mem_ready.1 hi
    have hlt : i < listed.size := by rw [hs]; exact (Array.getElem?_eq_some_iff.1 ho).1
    have h2 : listed.toList[i]? = some false := by
      rw [Array.getElem?_toList, Array.getElem?_eq_getElem hlt]
      simpa [hlt] using h1
    have e : (fun j => (listed.setIfInBounds i true).getD j false) = updB (fun j => listed.getD j false) i := by
      funext j
      unfold updB
      by_cases hj : j = i
      · subst hj; simp [hlt]
      · rw [if_neg hj, getD_set_ne false (fun h => hj h.symm)]
    refine wpOp_step ho fun K hK => hstep _ a w i o ho hJ (getD_both h1) (fun d hd' => ?_) K fun a' w' hJ' => hK a' w' (ih _ a' w' (by simp [hs]) ?_ (by rw [e]; exact hJ'))
    · obtain ⟨e', he, hb, rfl⟩ := (depsOk_spec hd ho).1 d hd'
      exact hall e' he hb
    · have := filter_set _ i h2
      rw [Array.toList_setIfInBounds]
      omega
/-! ### .. with the slots that the region leaves -/
def actOf (a0 : Act) (ds : List Nat) (s : Nat → Value) : Act := ds.foldl (fun a d => a.put (some d) (s d)) a0
theorem put_twice (a : Act) (d : Nat) (u v : Value) : (a.put (some d) u).put (some d) v = a.put (some d) v := by
  unfold Act.put
  simp only [Act.mk.injEq, and_true]
  apply Array.ext_getElem?
  intro i
  by_cases h : d = i
  · subst h; simp [Array.getElem?_setIfInBounds_self]
  · rw [Array.getElem?_setIfInBounds_ne h, Array.getElem?_setIfInBounds_ne h, Array.getElem?_setIfInBounds_ne h]
theorem put_swap (a : Act) {d e : Nat} (h : d ≠ e) (u v : Value) : (a.put (some d) u).put (some e) v = (a.put (some e) v).put (some d) u := by
  unfold Act.put
  simp only [Act.mk.injEq, and_true]
  exact Array.setIfInBounds_comm _ _ h
theorem actOf_put : ∀ (ds : List Nat) (a0 : Act) (s : Nat → Value) (d : Nat) (v : Value), d ∉ ds → (actOf a0 ds s).put (some d) v = actOf (a0.put (some d) v) ds s
  | [], a0, s, d, v, _ => rfl
  | e :: ds, a0, s, d, v, h => by
    have h1 : e ≠ d := fun x => h (by simp [x])
    have := actOf_put ds (a0.put (some e) (s e)) s d v (fun x => h (by simp [x]))
    show ((actOf (a0.put (some e) (s e)) ds s).put (some d) v) = _
    rw [this, put_swap _ h1]
    rfl
theorem actOf_congr : ∀ (ds : List Nat) (a0 : Act) (s s' : Nat → Value), (∀ d ∈ ds, s d = s' d) → actOf a0 ds s = actOf a0 ds s'
  | [], _, _, _, _ => rfl
  | e :: ds, a0, s, s', h => by
    show actOf (a0.put (some e) (s e)) ds s = actOf (a0.put (some e) (s' e)) ds s'
    rw [h e (by simp)]
    exact actOf_congr ds _ s s' fun d hd => h d (by simp [hd])
theorem actOf_upd : ∀ (ds : List Nat) (a0 : Act) (s : Nat → Value) (d : Nat) (v : Value), d ∈ ds → ds.Nodup → (actOf a0 ds s).put (some d) v = actOf a0 ds (updS s (some d) v)
  | [], _, _, _, _, h, _ => by cases h
  | e :: ds, a0, s, d, v, h, hn => by
    obtain ⟨hn1, hn2⟩ := List.nodup_cons.1 hn
    show (actOf (a0.put (some e) (s e)) ds s).put (some d) v = actOf (a0.put (some e) (updS s (some d) v e)) ds (updS s (some d) v)
    by_cases hed : e = d
    · subst hed
      rw [actOf_put ds _ s e v hn1, put_twice]
      have h1 : updS s (some e) v e = v := if_pos rfl
      rw [h1]
      exact actOf_congr ds _ _ _ fun d hd => (if_neg (fun x => hn1 (by rw [← x]; exact hd))).symm
    · have hd : d ∈ ds := by
        rcases List.mem_cons.1 h with h | h
        · exact absurd h.symm hed
        · exact h
      have h1 : updS s (some d) v e = s e := if_neg hed
      rw [h1]
      exact actOf_upd ds _ s d v hd hn2
theorem put_own (a : Act) (d : Nat) : a.put (some d) (a.tmps.getD d undef) = a := by
  unfold Act.put
  cases a with
  | mk t ds =>
    simp only [Act.mk.injEq, and_true]
    apply Array.ext_getElem?
    intro i
    by_cases h : d = i
    · subst h
      by_cases h2 : d < t.size
      · simp [h2]
      · rw [Array.getElem?_eq_none (by simp; omega), Array.getElem?_eq_none (by omega)]
    · rw [Array.getElem?_setIfInBounds_ne h]
theorem actOf_own : ∀ (ds : List Nat) (a0 : Act), actOf a0 ds (fun d => a0.tmps.getD d undef) = a0
  | [], _ => rfl
  | e :: ds, a0 => by
    show actOf (a0.put (some e) (a0.tmps.getD e undef)) ds (fun d => a0.tmps.getD d undef) = a0
    rw [put_own]
    exact actOf_own ds a0
def dstsOk (ops : Array Oper) (ds : List Nat) : Bool := decide ds.Nodup && ops.all fun o => match o.dst with | some d => ds.contains d | none => true
def Closed (deps : List (List Nat)) (L : Nat → Bool) : Prop := ∀ i d, L i = true → d ∈ deps.getD i [] → L d = true
theorem Closed.upd {deps : List (List Nat)} {L : Nat → Bool} (h : Closed deps L) {i : Nat} (hd : ∀ d ∈ deps.getD i [], L d = true) : Closed deps (updB L i) := fun j d hj hdj => by
  unfold updB at hj ⊢
  by_cases e : d = i
  · rw [if_pos e]
  · rw [if_neg e]
    by_cases e2 : j = i
    · subst e2; exact hd d hdj
    · rw [if_neg e2] at hj; exact h j d hj hdj
theorem wp_region_inv {id : Nat} {a0 : Act} {w0 : World} (hm : P.follows .mixedOrders = true) (hd : depsOk ops deps = true) (ds : List Nat) (hds : dstsOk ops ds = true) (J : (Nat → Bool) → (Nat → Value) → World → Prop)
    (h0 : J (fun _ => false) (fun d => a0.tmps.getD d undef) w0.drew)
    (hstep : ∀ (L : Nat → Bool) s w i o, ops[i]? = some o → J L s w → Closed deps L → L i = false → (∀ d ∈ deps.getD i [], L d = true) →
      ∀ K : Act → World → Prop, (∀ v w', J (updB L i) (updS s o.dst v) w' → K ((actOf a0 ds s).put o.dst v) w') → if Region.wanted o (yielded ops (actOf a0 ds s).tmps) = true then Oper.wp P o (actOf a0 ds s) w K Q else K ((actOf a0 ds s).put o.dst undef) w)
    (hfin : ∀ (L : Nat → Bool) s w, (∀ i, i < ops.size → L i = true) → J L s w → Q .normal (actOf a0 ds s) w) : (Code.region id ops true).wp P Q a0 w0 := by
  have hnd : ds.Nodup := by simp only [dstsOk, Bool.and_eq_true, decide_eq_true_eq] at hds; exact hds.1
  refine wp_region_any hm ?_
  refine wpAny_inv (deps := deps) hd (fun L a w => ∃ s, a = actOf a0 ds s ∧ J L s w ∧ Closed deps L) ?_ ?_ _ _ _ _ (by simp) (by simp) ⟨_, (actOf_own ds a0).symm, ?_, ?_⟩
  · rintro L _ w i o ho ⟨s, rfl, hJ, hcl⟩ hL0 hdp K hK
    refine hstep L s w i o ho hJ hcl hL0 hdp K fun v w' hJ' => hK _ _ ⟨_, ?_, hJ', hcl.upd hdp⟩
    have h2 : (match o.dst with | some d => ds.contains d | none => true) = true := by
      simp only [dstsOk, Bool.and_eq_true] at hds
      exact Array.all_eq_true'.1 hds.2 o (Array.mem_of_getElem? ho)
    cases hdst : o.dst with
    | none => rfl
    | some d =>
      rw [hdst] at h2
      exact actOf_upd ds a0 s d v (by simpa using h2) hnd
  · rintro L _ w hL ⟨s, rfl, hJ, _⟩
    exact hfin L s w hL hJ
  · have e : (fun i => (Array.replicate ops.size false).getD i false) = fun _ => false := by funext i; exact getD_replicate_false _ _
    rw [e]
    exact h0
  · intro i d hi _
    have : (Array.replicate ops.size false).getD i false = true := hi
    rw [getD_replicate_false] at this
    cases this
def StepAt (P : Program) (ops : Array Oper) (Q : Exit → Act → World → Prop) (deps : List (List Nat)) (a0 : Act) (ds : List Nat) (J : (Nat → Bool) → (Nat → Value) → World → Prop) (i : Nat) (o : Oper) : Prop :=
  ∀ (L : Nat → Bool) s w, J L s w → Closed deps L → L i = false → (∀ d ∈ deps.getD i [], L d = true) → ∀ K : Act → World → Prop, (∀ v w', J (updB L i) (updS s o.dst v) w' → K ((actOf a0 ds s).put o.dst v) w') →
    if Region.wanted o (yielded ops (actOf a0 ds s).tmps) = true then Oper.wp P o (actOf a0 ds s) w K Q else K ((actOf a0 ds s).put o.dst undef) w
theorem steps_nil {a0 : Act} {ds : List Nat} {J : (Nat → Bool) → (Nat → Value) → World → Prop} {n : Nat} : ∀ i o, ([] : List Oper)[i]? = some o → StepAt P ops Q deps a0 ds J (n + i) o := fun i o h => by simp at h
theorem steps_cons {a0 : Act} {ds : List Nat} {J : (Nat → Bool) → (Nat → Value) → World → Prop} {n : Nat} {o0 : Oper} {l : List Oper} (h : StepAt P ops Q deps a0 ds J n o0)
    (hs : ∀ i o, l[i]? = some o → StepAt P ops Q deps a0 ds J (n + 1 + i) o) : ∀ i o, (o0 :: l)[i]? = some o → StepAt P ops Q deps a0 ds J (n + i) o
  | 0, o, he => by simp at he; subst he; exact h
  | i + 1, o, he => by
    have := hs i o (by simpa using he)
    rwa [show n + 1 + i = n + (i + 1) by omega] at this
theorem wp_region_steps {id : Nat} {a0 : Act} {w0 : World} {l : List Oper} (hm : P.follows .mixedOrders = true) (deps : List (List Nat)) (hd : depsOk l.toArray deps = true) (ds : List Nat) (hds : dstsOk l.toArray ds = true) (J : (Nat → Bool) → (Nat → Value) → World → Prop)
    (h0 : J (fun _ => false) (fun d => a0.tmps.getD d undef) w0.drew)
    (hstep : ∀ i o, l[i]? = some o → StepAt P l.toArray Q deps a0 ds J (0 + i) o)
    (hfin : ∀ (L : Nat → Bool) s w, (∀ i, i < l.length → L i = true) → J L s w → Q .normal (actOf a0 ds s) w) : (Code.region id l.toArray true).wp P Q a0 w0 :=
  wp_region_inv hm hd ds hds J h0 (fun L s w i o ho hJ hcl hL0 hdp K hK => by
    have := hstep i o (by simpa using ho)
    rw [Nat.zero_add] at this
    exact this L s w hJ hcl hL0 hdp K hK) fun L s w hL hJ => hfin L s w (fun i hi => hL i (by simpa using hi)) hJ
end
/-! ### 'x, y, z := f(a), g(b), h(c)': loads, calls, new rows, stores -/
structure JN (W0 : World) (n : Nat) (oi sl : Nat → Nat) (k : Nat → Nat) (A V : Nat → Value) (Z U : Nat → Array Value) (L : Nat → Bool) (s : Nat → Value) (w : World) : Prop where
  below : Below W0.heap.size W0 w
  ld : ∀ j, j < n → L (oi j) = true → s (sl j) = A j
  cl : ∀ j, j < n → L (oi (n + j)) = true → s (sl (n + j)) = V j
  bx : ∃ b : Nat → Nat, (∀ j, j < n → L (oi (2 * n + j)) = true → s (sl (2 * n + j)) = .pointer (some ⟨b j, 0, none⟩) ∧ W0.heap.size ≤ b j ∧ Hold w (b j) (k j) (if L (oi (3 * n + j)) = true then U j else Z j)) ∧
    ∀ i j, i < n → j < n → i ≠ j → L (oi (2 * n + i)) = true → L (oi (2 * n + j)) = true → b i ≠ b j
def InjTo (m : Nat) (f : Nat → Nat) : Prop := ∀ x, x < m → ∀ y, y < m → f x = f y → x = y
theorem updB_other {L : Nat → Bool} {i j : Nat} (h : j ≠ i) : updB L i j = L j := if_neg h
theorem updB_self {L : Nat → Bool} {i : Nat} : updB L i i = true := if_pos rfl
theorem updS_other {s : Nat → Value} {d e : Nat} {v : Value} (h : e ≠ d) : updS s (some d) v e = s e := if_neg h
theorem updS_self {s : Nat → Value} {d : Nat} {v : Value} : updS s (some d) v d = v := if_pos rfl
section
variable {W0 : World} {n : Nat} {oi sl : Nat → Nat} {k : Nat → Nat} {A V : Nat → Value} {Z U : Nat → Array Value} {L : Nat → Bool} {s : Nat → Value} {w : World}
theorem JN.start (W0 : World) (n : Nat) (oi sl : Nat → Nat) (k : Nat → Nat) (A V : Nat → Value) (Z U : Nat → Array Value) (s : Nat → Value) : JN W0 n oi sl k A V Z U (fun _ => false) s W0.drew :=
  ⟨(Below.refl _ _).drewN 1, fun j _ h => Bool.noConfusion h, fun j _ h => Bool.noConfusion h, fun _ => 0, fun j _ h => Bool.noConfusion h, fun i j _ _ _ h => Bool.noConfusion h⟩
theorem JN.load (ho : InjTo (4 * n) oi) (hs : InjTo (3 * n) sl) (h : JN W0 n oi sl k A V Z U L s w) {j : Nat} (hj : j < n) : JN W0 n oi sl k A V Z U (updB L (oi j)) (updS s (some (sl j)) (A j)) w := by
  have e1 : ∀ x, x < 4 * n → x ≠ j → updB L (oi j) (oi x) = L (oi x) := fun x hx hn => updB_other fun e => hn (ho x hx j (by omega) e)
  have e2 : ∀ x, x < 3 * n → x ≠ j → updS s (some (sl j)) (A j) (sl x) = s (sl x) := fun x hx hn => updS_other fun e => hn (hs x hx j (by omega) e)
  refine ⟨h.below, fun i hi hL => ?_, fun i hi hL => ?_, ?_⟩
  · by_cases e : i = j
    · subst e; exact updS_self
    · rw [e2 i (by omega) e]; rw [e1 i (by omega) e] at hL; exact h.ld i hi hL
  · rw [e2 _ (by omega) (by omega)]; rw [e1 _ (by omega) (by omega)] at hL; exact h.cl i hi hL
  · obtain ⟨b, h1, h2⟩ := h.bx
    refine ⟨b, fun i hi hL => ?_, fun i i' hi hi' hne hL hL' => ?_⟩
    · rw [e1 _ (by omega) (by omega)] at hL
      rw [e2 _ (by omega) (by omega), e1 _ (by omega) (by omega)]
      exact h1 i hi hL
    · rw [e1 _ (by omega) (by omega)] at hL hL'
      exact h2 i i' hi hi' hne hL hL'
theorem JN.call (ho : InjTo (4 * n) oi) (hs : InjTo (3 * n) sl) (h : JN W0 n oi sl k A V Z U L s w) {j : Nat} (hj : j < n) {w' : World} (hb : Below w.heap.size w w') : JN W0 n oi sl k A V Z U (updB L (oi (n + j))) (updS s (some (sl (n + j))) (V j)) w' := by
  have e1 : ∀ x, x < 4 * n → x ≠ n + j → updB L (oi (n + j)) (oi x) = L (oi x) := fun x hx hn => updB_other fun e => hn (ho x hx (n + j) (by omega) e)
  have e2 : ∀ x, x < 3 * n → x ≠ n + j → updS s (some (sl (n + j))) (V j) (sl x) = s (sl x) := fun x hx hn => updS_other fun e => hn (hs x hx (n + j) (by omega) e)
  refine ⟨h.below.trans (hb.mono h.below.size), fun i hi hL => ?_, fun i hi hL => ?_, ?_⟩
  · rw [e2 _ (by omega) (by omega)]; rw [e1 _ (by omega) (by omega)] at hL; exact h.ld i hi hL
  · by_cases e : i = j
    · subst e; exact updS_self
    · rw [e2 _ (by omega) (by omega)]; rw [e1 _ (by omega) (by omega)] at hL; exact h.cl i hi hL
  · obtain ⟨b, h1, h2⟩ := h.bx
    refine ⟨b, fun i hi hL => ?_, fun i i' hi hi' hne hL hL' => ?_⟩
    · rw [e1 _ (by omega) (by omega)] at hL
      rw [e2 _ (by omega) (by omega), e1 _ (by omega) (by omega)]
      obtain ⟨p1, p2, p3⟩ := h1 i hi hL
      exact ⟨p1, p2, p3.call hb⟩
    · rw [e1 _ (by omega) (by omega)] at hL hL'
      exact h2 i i' hi hi' hne hL hL'
theorem JN.alloc (ho : InjTo (4 * n) oi) (hs : InjTo (3 * n) sl) (h : JN W0 n oi sl k A V Z U L s w) {j : Nat} (hj : j < n) (hk : (Z j).size = k j) (hdep : L (oi (3 * n + j)) = true → L (oi (2 * n + j)) = true) (hL0 : L (oi (2 * n + j)) = false) (T : TypeId) :
    JN W0 n oi sl k A V Z U (updB L (oi (2 * n + j))) (updS s (some (sl (2 * n + j))) (.pointer (some ⟨w.heap.size, 0, none⟩))) (w.alloc (.cells (Z j) T)) := by
  have e1 : ∀ x, x < 4 * n → x ≠ 2 * n + j → updB L (oi (2 * n + j)) (oi x) = L (oi x) := fun x hx hn => updB_other fun e => hn (ho x hx (2 * n + j) (by omega) e)
  have e2 : ∀ x v, x < 3 * n → x ≠ 2 * n + j → updS s (some (sl (2 * n + j))) v (sl x) = s (sl x) := fun x v hx hn => updS_other fun e => hn (hs x hx (2 * n + j) (by omega) e)
  refine ⟨h.below.alloc h.below.size _, fun i hi hL => ?_, fun i hi hL => ?_, ?_⟩
  · rw [e2 _ _ (by omega) (by omega)]; rw [e1 _ (by omega) (by omega)] at hL; exact h.ld i hi hL
  · rw [e2 _ _ (by omega) (by omega)]; rw [e1 _ (by omega) (by omega)] at hL; exact h.cl i hi hL
  · obtain ⟨b, h1, h2⟩ := h.bx
    refine ⟨fun i => if i = j then w.heap.size else b i, fun i hi hL => ?_, fun i i' hi hi' hne hL hL' => ?_⟩
    · by_cases e : i = j
      · subst e
        have h3 : L (oi (3 * n + i)) = false := by
          cases h3 : L (oi (3 * n + i))
          · rfl
          · rw [hdep h3] at hL0; cases hL0
        rw [updS_self, e1 _ (by omega) (by omega), h3]
        simp only [if_true]
        exact ⟨trivial, h.below.size, Hold.new w _ T _ hk⟩
      · rw [e1 _ (by omega) (by omega)] at hL
        rw [e2 _ _ (by omega) (by omega), e1 _ (by omega) (by omega)]
        obtain ⟨p1, p2, p3⟩ := h1 i hi hL
        simp only [if_neg e]
        exact ⟨p1, p2, p3.past _⟩
    · by_cases e : i = j
      · subst e
        rw [e1 _ (by omega) (by omega)] at hL'
        have := (h1 i' hi' hL').2.2.lt
        simp only [if_true, if_neg (fun x => hne x.symm : ¬ i' = i)]
        omega
      · rw [e1 _ (by omega) (by omega)] at hL
        by_cases e' : i' = j
        · subst e'
          have := (h1 i hi hL).2.2.lt
          simp only [if_true, if_neg e]
          omega
        · rw [e1 _ (by omega) (by omega)] at hL'
          simp only [if_neg e, if_neg e']
          exact h2 i i' hi hi' hne hL hL'
theorem JN.box (h : JN W0 n oi sl k A V Z U L s w) {j : Nat} (hj : j < n) (hL : L (oi (2 * n + j)) = true) : ∃ m, s (sl (2 * n + j)) = .pointer (some ⟨m, 0, none⟩) ∧ W0.heap.size ≤ m ∧ Hold w m (k j) (if L (oi (3 * n + j)) = true then U j else Z j) := by
  obtain ⟨b, h1, _⟩ := h.bx
  exact ⟨b j, h1 j hj hL⟩
theorem JN.withBox {C : Prop} (h : JN W0 n oi sl k A V Z U L s w) (j : Nat) (hj : j < n) (hL : L (oi (2 * n + j)) = true) (f : ∀ m, s (sl (2 * n + j)) = .pointer (some ⟨m, 0, none⟩) → W0.heap.size ≤ m → Hold w m (k j) (if L (oi (3 * n + j)) = true then U j else Z j) → C) : C := by
  obtain ⟨m, h1, h2, h3⟩ := h.box hj hL
  exact f m h1 h2 h3
theorem JN.withBoxAll {C : Prop} (h : JN W0 n oi sl k A V Z U L s w) (j : Nat) (hj : j < n) (hL : L (oi (2 * n + j)) = true) (hL2 : L (oi (3 * n + j)) = true) (f : ∀ m, s (sl (2 * n + j)) = .pointer (some ⟨m, 0, none⟩) → W0.heap.size ≤ m → Hold w m (k j) (U j) → C) : C := by
  obtain ⟨m, h1, h2, h3⟩ := h.box hj hL
  rw [if_pos hL2] at h3
  exact f m h1 h2 h3
theorem JN.store (ho : InjTo (4 * n) oi) (h : JN W0 n oi sl k A V Z U L s w) {j : Nat} (hj : j < n) (hk : (U j).size = k j) (hL : L (oi (2 * n + j)) = true) {m : Nat} (hm : s (sl (2 * n + j)) = .pointer (some ⟨m, 0, none⟩)) :
    JN W0 n oi sl k A V Z U (updB L (oi (3 * n + j))) s (w.setRow m (U j)) := by
  have e1 : ∀ x, x < 4 * n → x ≠ 3 * n + j → updB L (oi (3 * n + j)) (oi x) = L (oi x) := fun x hx hn => updB_other fun e => hn (ho x hx (3 * n + j) (by omega) e)
  obtain ⟨b, h1, h2⟩ := h.bx
  obtain ⟨p1, p2, p3⟩ := h1 j hj hL
  have hmb : m = b j := by
    rw [hm] at p1
    injection p1 with p1
    injection p1 with p1
    injection p1
  subst hmb
  refine ⟨below_setRow h.below p2 _, fun i hi hL => ?_, fun i hi hL => ?_, b, fun i hi hL' => ?_, fun i i' hi hi' hne hL' hL'' => ?_⟩
  · rw [e1 _ (by omega) (by omega)] at hL; exact h.ld i hi hL
  · rw [e1 _ (by omega) (by omega)] at hL; exact h.cl i hi hL
  · rw [e1 _ (by omega) (by omega)] at hL'
    obtain ⟨r1, r2, r3⟩ := h1 i hi hL'
    by_cases e : i = j
    · subst e
      rw [updB_self]
      simp only [if_true]
      exact ⟨r1, r2, p3.set _ hk⟩
    · rw [e1 _ (by omega) (by omega)]
      exact ⟨r1, r2, r3.other _ (h2 i j hi hj e hL' hL)⟩
  · rw [e1 _ (by omega) (by omega)] at hL' hL''
    exact h2 i i' hi hi' hne hL' hL''
end
/-! ### Operations whose values are known, calls that make memory of their own -/
structure JV (W0 : World) (ds : List Nat) (vs : List Value) (L : Nat → Bool) (s : Nat → Value) (w : World) : Prop where
  below : Below W0.heap.size W0 w
  val : ∀ i, i < ds.length → L i = true → s (ds.getD i 0) = vs.getD i undef
theorem JV.start (W0 : World) (ds : List Nat) (vs : List Value) (s : Nat → Value) : JV W0 ds vs (fun _ => false) s W0.drew := ⟨(Below.refl _ _).drewN 1, fun i _ h => Bool.noConfusion h⟩
theorem nodup_getD {ds : List Nat} (h : ds.Nodup) {i j : Nat} (hi : i < ds.length) (hj : j < ds.length) (e : ds.getD i 0 = ds.getD j 0) : i = j := by
  rw [List.getD_eq_getElem?_getD, List.getD_eq_getElem?_getD, List.getElem?_eq_getElem hi, List.getElem?_eq_getElem hj] at e
  exact (List.getElem_inj h).1 (by simpa using e)
theorem JV.step {W0 : World} {ds : List Nat} {vs : List Value} {L : Nat → Bool} {s : Nat → Value} {w w' : World} (h : JV W0 ds vs L s w) (hn : ds.Nodup) (i : Nat) (hi : i < ds.length) (hb : Below w.heap.size w w') :
    JV W0 ds vs (updB L i) (updS s (some (ds.getD i 0)) (vs.getD i undef)) w' :=
  ⟨h.below.trans (hb.mono h.below.size), fun j hj hL => by
    by_cases e : j = i
    · subst e; exact updS_self
    · rw [updS_other (fun x => e (nodup_getD hn hj hi x))]
      rw [updB_other e] at hL
      exact h.val j hj hL⟩
theorem JV.still {W0 : World} {ds : List Nat} {vs : List Value} {L : Nat → Bool} {s : Nat → Value} {w : World} (h : JV W0 ds vs L s w) (hn : ds.Nodup) (i : Nat) (hi : i < ds.length) :
    JV W0 ds vs (updB L i) (updS s (some (ds.getD i 0)) (vs.getD i undef)) w := h.step hn i hi (Below.refl _ _)
def oi3 (x : Nat) : Nat := [0, 2, 4, 1, 3, 5, 6, 7, 8, 9, 10, 11].getD x 0
def deps3 : List (List Nat) := [[], [0], [], [2], [], [4], [], [], [], [6, 1], [7, 3], [8, 5]]
theorem oi3_inj : InjTo (4 * 3) oi3 := by unfold InjTo; decide
def pick3 {α : Type} (a b c : α) : Nat → α
  | 0 => a
  | 1 => b
  | _ => c
def lst (l : List Nat) (x : Nat) : Nat := l.getD x 0
def pickV (l : List Value) (x : Nat) : Value := l.getD x undef
def pickT (l : List (Array Value)) (x : Nat) : Array Value := l.getD x #[]
end Go.Proofs.YteiemboopkbdpaaDoor.Rw
end

section
namespace Go.Proofs.YteiemboopkbdpaaDoor.Rw
open Go.RowKit
set_option linter.unusedVariables false
set_option linter.unusedSimpArgs false
structure Phi where
  says : Value → World → Prop
  stays : ∀ v w w', says v w → Below w.heap.size w w' → says v w'
def isV (x : Value) : Phi := ⟨fun v _ => v = x, fun _ _ _ h _ => h⟩
def isB (n : Nat) (xs : List Nat) : Phi := ⟨fun v w => ∃ A c, v = .slice A n c ∧ Words .u8 w A xs, fun _ _ _ ⟨A, c, h1, h2⟩ hb => ⟨A, c, h1, h2.below hb (Nat.le_refl _)⟩⟩
structure JE (W0 : World) (ds : List Nat) (ps : List Phi) (L : Nat → Bool) (s : Nat → Value) (w : World) : Prop where
  below : Below W0.heap.size W0 w
  val : ∀ i, i < ds.length → L i = true → (ps.getD i (isV undef)).says (s (ds.getD i 0)) w
theorem JE.start (W0 : World) (ds : List Nat) (ps : List Phi) (s : Nat → Value) : JE W0 ds ps (fun _ => false) s W0.drew := ⟨(Below.refl _ _).drewN 1, fun i _ h => Bool.noConfusion h⟩
theorem JE.step {W0 : World} {ds : List Nat} {ps : List Phi} {L : Nat → Bool} {s : Nat → Value} {w w' : World} (h : JE W0 ds ps L s w) (hn : ds.Nodup) (i : Nat) (hi : i < ds.length) (hb : Below w.heap.size w w') {v : Value} (hv : (ps.getD i (isV undef)).says v w') :
    JE W0 ds ps (updB L i) (updS s (some (ds.getD i 0)) v) w' :=
  ⟨h.below.trans (hb.mono h.below.size), fun j hj hL => by
    by_cases e : j = i
    · subst e; rw [updS_self]; exact hv
    · rw [updS_other (fun x => e (nodup_getD hn hj hi x))]
      rw [updB_other e] at hL
      exact (ps.getD j (isV undef)).stays _ _ _ (h.val j hj hL) hb⟩
theorem JE.still {W0 : World} {ds : List Nat} {ps : List Phi} {L : Nat → Bool} {s : Nat → Value} {w : World} (h : JE W0 ds ps L s w) (hn : ds.Nodup) (i : Nat) (hi : i < ds.length) {v : Value} (hv : (ps.getD i (isV undef)).says v w) :
    JE W0 ds ps (updB L i) (updS s (some (ds.getD i 0)) v) w := h.step hn i hi (Below.refl _ _) hv
theorem JE.bytes {W0 : World} {ds : List Nat} {ps : List Phi} {L : Nat → Bool} {s : Nat → Value} {w : World} (h : JE W0 ds ps L s w) (i : Nat) (hi : i < ds.length) (hL : L i = true) {n : Nat} {xs : List Nat} (hp : ps.getD i (isV undef) = isB n xs) {d : Nat} (hd : ds.getD i 0 = d) :
    ∃ A c, s d = .slice A n c ∧ Words .u8 w A xs := by
  have := h.val i hi hL
  rw [hp, hd] at this
  exact this
theorem JE.stepB {W0 : World} {ds : List Nat} {ps : List Phi} {L : Nat → Bool} {s : Nat → Value} {w w' : World} (h : JE W0 ds ps L s w) (hn : ds.Nodup) (i : Nat) (hi : i < ds.length) (hb : Below w.heap.size w w') {n : Nat} {xs : List Nat} (hp : ps.getD i (isV undef) = isB n xs) {A : Option Addr} {c : Nat} (hw : Words .u8 w' A xs) :
    JE W0 ds ps (updB L i) (updS s (some (ds.getD i 0)) (.slice A n c)) w' :=
  h.step hn i hi hb (by rw [hp]; exact ⟨A, c, rfl, hw⟩)
end Go.Proofs.YteiemboopkbdpaaDoor.Rw
end

section
namespace Go.Proofs.YteiemboopkbdpaaDoor.Mk
open Go.RowKit Rw
set_option linter.unusedVariables false
set_option linter.unusedSimpArgs false
set_option maxRecDepth 20000 in
theorem refBlock11_any (n : Int) (w : World) : Calls Tryd.prog 26 #[.int .i64 n] w fun e w' => e = .returned (.int .i64 (sz11 n : Nat)) ∧ w = w' := by
  rcases sz11_cases n with ⟨hs, ha⟩ | ⟨hs, ha⟩ | ⟨hs, ha⟩
  · have k1 : decide (n < 1) = false := decide_eq_false (by omega)
    have k2 : decide (n > 6) = false := decide_eq_false (by omega)
    have k3 : decide (n < 3) = true := decide_eq_true (by omega)
    have k4 : decide (6 < n) = false := decide_eq_false (by omega)
    rw [hs]
    clear ha hs
    go_enter Tryd.func26, Tryd.ntmps26
    go_wp2_with fail
    go_ret
    exact ⟨rfl, rfl⟩
  · have k1 : decide (n < 1) = false := decide_eq_false (by omega)
    have k2 : decide (n > 6) = false := decide_eq_false (by omega)
    have k3 : decide (n < 3) = false := decide_eq_false (by omega)
    have k4 : decide (6 < n) = false := decide_eq_false (by omega)
    rw [hs]
    clear ha hs
    go_enter Tryd.func26, Tryd.ntmps26
    go_wp2_with fail
    go_ret
    exact ⟨rfl, rfl⟩
  · rw [hs]
    by_cases h1 : n < 1
    · have k1 : decide (n < 1) = true := decide_eq_true h1
      clear ha hs h1
      go_enter Tryd.func26, Tryd.ntmps26
      go_wp2_with fail
      go_ret
      exact ⟨rfl, rfl⟩
    · have k1 : decide (n < 1) = false := decide_eq_false h1
      have k2 : decide (n > 6) = true := decide_eq_true (by omega)
      have k4 : decide (6 < n) = true := decide_eq_true (by omega)
      clear ha hs h1
      go_enter Tryd.func26, Tryd.ntmps26
      go_wp2_with fail
      go_ret
      exact ⟨rfl, rfl⟩
theorem blk_h {alg : Int} {h : Nat → Nat} {hi lo : Nat} {s : Value} {fl : Bool} {k : Nat} (hk : k < 8) : (blkV alg h hi lo s fl)[1 + k]? = some (.int .u64 (h k : Nat)) := by
  match k, hk with
  | 0, _ => rfl
  | 1, _ => rfl
  | 2, _ => rfl
  | 3, _ => rfl
  | 4, _ => rfl
  | 5, _ => rfl
  | 6, _ => rfl
  | 7, _ => rfl
set_option maxRecDepth 100000 in
set_option maxHeartbeats 2000000 in
theorem refRight11_core (alg : Int) (sz : Nat) (hs : sz = 64 ∨ sz = 128) (h : Nat → Nat) (hi lo : Nat) (A : Option Addr) (n c : Nat) (fl : Bool) (b1 b2 : Bool) (m : Int) (hm : (m != (n : Int)) = !b2)
    (C0 : ∀ W, Calls Tryd.prog 26 #[.int .i64 alg] W fun e w' => e = .returned (.int .i64 (sz : Nat)) ∧ W = w')
    (C1 : ∀ W, Calls Tryd.prog 27 #[.agg #[.int .u64 (hi : Int), .int .u64 (lo : Int)], .int .i64 (sz : Nat)] W fun e w' => e = .returned (.bool b1) ∧ Below W.heap.size W w')
    (C2 : ∀ W, Calls Tryd.prog 28 #[.agg #[.int .u64 (hi : Int), .int .u64 (lo : Int)], .int .i64 (sz : Nat)] W fun e w' => e = .returned (.int .i64 m) ∧ Below W.heap.size W w') (w : World) :
    Calls Tryd.prog 10 #[.agg (blkV alg h hi lo (.slice A n c) fl)] w fun e w' => e = .returned (.bool ((decide (sz = 128) || low32 h) && (b1 && b2))) ∧ Below w.heap.size w w' := by
  have C0 := Lib.hid C0
  have C1 := Lib.hid C1
  have C2 := Lib.hid C2
  have H0 : Hid (Hold (w.alloc (.cells (blkV alg h hi lo (.slice A n c) fl) 28)) w.heap.size 13 (blkV alg h hi lo (.slice A n c) fl)) := Hold.new w _ _ 13 rfl
  have HB := Lib.hid ((Below.refl _ w).alloc (Nat.le_refl _) (.cells (blkV alg h hi lo (.slice A n c) fl) 28))
  have HH := Lib.hid (fun k (hk : k < 8) => blk_h (alg := alg) (h := h) (hi := hi) (lo := lo) (s := .slice A n c) (fl := fl) hk)
  have k0 : ((sz : Int) == 0) = false := by rw [beq_eq_false_iff_ne]; omega
  cases b1 with
  | false =>
    unfold blkV at *
    go_enter Tryd.func10, Tryd.ntmps10
    go_wp2_with (go_at_call 26; (with_reducible refine (C0.out _).mono ?_); rintro e u1 ⟨rfl, rfl⟩)
    have hnd : ([8, 9, 10, 11, 12, 13, 14, 15, 16, 17, 18, 19, 20, 21, 22, 23, 24, 25, 26] : List Nat).Nodup := by decide
    refine wp_region_steps (by kernel_rfl) [[], [0], [1], [2], [2, 3], [2], [2, 4, 5], [2, 6], [2, 7], [8], [9], [9, 10], [9], [9, 11, 12], [9], [9, 14], [9, 15], [9, 13, 16], [9, 17]] (by kernel_rfl) [8, 9, 10, 11, 12, 13, 14, 15, 16, 17, 18, 19, 20, 21, 22, 23, 24, 25, 26] (by kernel_rfl)
      (JE _ [8, 9, 10, 11, 12, 13, 14, 15, 16, 17, 18, 19, 20, 21, 22, 23, 24, 25, 26] [isV (.int .i64 (sz : Nat)), isV (.bool false), isV (.bool false), isV (.pointer (some ⟨w.heap.size, 9, none⟩)), isV (.agg #[.int .u64 (hi : Nat), .int .u64 (lo : Nat)]), isV (.int .i64 (sz : Nat)), isV (.bool false), isV (.bool true), isV (.bool true), isV (.bool true), isV (undef), isV (undef), isV (undef), isV (undef), isV (undef), isV (undef), isV (undef), isV (undef), isV (.bool true)])
      (JE.start _ _ _ _) (steps_cons ?_ (steps_cons ?_ (steps_cons ?_ (steps_cons ?_ (steps_cons ?_ (steps_cons ?_ (steps_cons ?_ (steps_cons ?_ (steps_cons ?_ (steps_cons ?_ (steps_cons ?_ (steps_cons ?_ (steps_cons ?_ (steps_cons ?_ (steps_cons ?_ (steps_cons ?_ (steps_cons ?_ (steps_cons ?_ (steps_cons ?_ (steps_nil)))))))))))))))))))) ?_
    · intro L s W hJ hcl hL0 hd K hK
      simp only [actOf, List.foldl_cons, List.foldl_nil, Act.put, List.setIfInBounds_toArray, List.set_cons_succ, List.set_cons_zero] at hK ⊢
      go_simp
      exact hK _ _ (hJ.still hnd 0 (by decide) rfl)
    · intro L s W hJ hcl hL0 hd K hK
      have e8 : s 8 = .int .i64 (sz : Nat) := hJ.val 0 (by decide) (hd 0 (by decide))
      simp only [actOf, List.foldl_cons, List.foldl_nil, Act.put, List.setIfInBounds_toArray, List.set_cons_succ, List.set_cons_zero] at hK ⊢
      simp only [e8] at hK ⊢
      go_simp
      exact hK _ _ (hJ.still hnd 1 (by decide) rfl)
    · intro L s W hJ hcl hL0 hd K hK
      have e9 : s 9 = .bool false := hJ.val 1 (by decide) (hd 1 (by decide))
      simp only [actOf, List.foldl_cons, List.foldl_nil, Act.put, List.setIfInBounds_toArray, List.set_cons_succ, List.set_cons_zero] at hK ⊢
      simp only [e9] at hK ⊢
      go_simp
      exact hK _ _ (hJ.still hnd 2 (by decide) rfl)
    · intro L s W hJ hcl hL0 hd K hK
      have e10 : s 10 = .bool false := hJ.val 2 (by decide) (hd 2 (by decide))
      simp only [actOf, List.foldl_cons, List.foldl_nil, Act.put, List.setIfInBounds_toArray, List.set_cons_succ, List.set_cons_zero] at hK ⊢
      simp only [e10] at hK ⊢
      go_simp
      exact hK _ _ (hJ.still hnd 3 (by decide) rfl)
    · intro L s W hJ hcl hL0 hd K hK
      have e10 : s 10 = .bool false := hJ.val 2 (by decide) (hd 2 (by decide))
      have e11 : s 11 = .pointer (some ⟨w.heap.size, 9, none⟩) := hJ.val 3 (by decide) (hd 3 (by decide))
      simp only [actOf, List.foldl_cons, List.foldl_nil, Act.put, List.setIfInBounds_toArray, List.set_cons_succ, List.set_cons_zero] at hK ⊢
      simp only [e10, e11] at hK ⊢
      have q1 := blk_count (H0.out.call hJ.below)
      have q2 : W.cell? ⟨w.heap.size, 11, none⟩ = some (.slice A n c) := (H0.out.call hJ.below).cell rfl
      go_simp
      exact hK _ _ (hJ.still hnd 4 (by decide) rfl)
    · intro L s W hJ hcl hL0 hd K hK
      have e10 : s 10 = .bool false := hJ.val 2 (by decide) (hd 2 (by decide))
      simp only [actOf, List.foldl_cons, List.foldl_nil, Act.put, List.setIfInBounds_toArray, List.set_cons_succ, List.set_cons_zero] at hK ⊢
      simp only [e10] at hK ⊢
      go_simp
      exact hK _ _ (hJ.still hnd 5 (by decide) rfl)
    · intro L s W hJ hcl hL0 hd K hK
      have e10 : s 10 = .bool false := hJ.val 2 (by decide) (hd 2 (by decide))
      have e12 : s 12 = .agg #[.int .u64 (hi : Nat), .int .u64 (lo : Nat)] := hJ.val 4 (by decide) (hd 4 (by decide))
      have e13 : s 13 = .int .i64 (sz : Nat) := hJ.val 5 (by decide) (hd 5 (by decide))
      simp only [actOf, List.foldl_cons, List.foldl_nil, Act.put, List.setIfInBounds_toArray, List.set_cons_succ, List.set_cons_zero] at hK ⊢
      simp only [e10, e12, e13] at hK ⊢
      go_simp
      refine (C1.out _).mono ?_
      rintro e w9 ⟨rfl, hb⟩
      exact hK _ _ (hJ.step hnd 6 (by decide) hb rfl)
    · intro L s W hJ hcl hL0 hd K hK
      have e10 : s 10 = .bool false := hJ.val 2 (by decide) (hd 2 (by decide))
      have e14 : s 14 = .bool false := hJ.val 6 (by decide) (hd 6 (by decide))
      simp only [actOf, List.foldl_cons, List.foldl_nil, Act.put, List.setIfInBounds_toArray, List.set_cons_succ, List.set_cons_zero] at hK ⊢
      simp only [e10, e14] at hK ⊢
      go_simp
      exact hK _ _ (hJ.still hnd 7 (by decide) rfl)
    · intro L s W hJ hcl hL0 hd K hK
      have e10 : s 10 = .bool false := hJ.val 2 (by decide) (hd 2 (by decide))
      have e15 : s 15 = .bool true := hJ.val 7 (by decide) (hd 7 (by decide))
      simp only [actOf, List.foldl_cons, List.foldl_nil, Act.put, List.setIfInBounds_toArray, List.set_cons_succ, List.set_cons_zero] at hK ⊢
      simp only [e10, e15] at hK ⊢
      go_simp
      exact hK _ _ (hJ.still hnd 8 (by decide) rfl)
    · intro L s W hJ hcl hL0 hd K hK
      have e16 : s 16 = .bool true := hJ.val 8 (by decide) (hd 8 (by decide))
      simp only [actOf, List.foldl_cons, List.foldl_nil, Act.put, List.setIfInBounds_toArray, List.set_cons_succ, List.set_cons_zero] at hK ⊢
      simp only [e16] at hK ⊢
      go_simp
      exact hK _ _ (hJ.still hnd 9 (by decide) rfl)
    · intro L s W hJ hcl hL0 hd K hK
      have e17 : s 17 = .bool true := hJ.val 9 (by decide) (hd 9 (by decide))
      simp only [actOf, List.foldl_cons, List.foldl_nil, Act.put, List.setIfInBounds_toArray, List.set_cons_succ, List.set_cons_zero] at hK ⊢
      simp only [e17] at hK ⊢
      go_simp
      exact hK _ _ (hJ.still hnd 10 (by decide) rfl)
    · intro L s W hJ hcl hL0 hd K hK
      have e17 : s 17 = .bool true := hJ.val 9 (by decide) (hd 9 (by decide))
      have e18 : s 18 = undef := hJ.val 10 (by decide) (hd 10 (by decide))
      simp only [actOf, List.foldl_cons, List.foldl_nil, Act.put, List.setIfInBounds_toArray, List.set_cons_succ, List.set_cons_zero] at hK ⊢
      simp only [e17, e18] at hK ⊢
      have q1 := blk_count (H0.out.call hJ.below)
      have q2 : W.cell? ⟨w.heap.size, 11, none⟩ = some (.slice A n c) := (H0.out.call hJ.below).cell rfl
      go_simp
      exact hK _ _ (hJ.still hnd 11 (by decide) rfl)
    · intro L s W hJ hcl hL0 hd K hK
      have e17 : s 17 = .bool true := hJ.val 9 (by decide) (hd 9 (by decide))
      simp only [actOf, List.foldl_cons, List.foldl_nil, Act.put, List.setIfInBounds_toArray, List.set_cons_succ, List.set_cons_zero] at hK ⊢
      simp only [e17] at hK ⊢
      go_simp
      exact hK _ _ (hJ.still hnd 12 (by decide) rfl)
    · intro L s W hJ hcl hL0 hd K hK
      have e17 : s 17 = .bool true := hJ.val 9 (by decide) (hd 9 (by decide))
      have e19 : s 19 = undef := hJ.val 11 (by decide) (hd 11 (by decide))
      have e20 : s 20 = undef := hJ.val 12 (by decide) (hd 12 (by decide))
      simp only [actOf, List.foldl_cons, List.foldl_nil, Act.put, List.setIfInBounds_toArray, List.set_cons_succ, List.set_cons_zero] at hK ⊢
      simp only [e17, e19, e20] at hK ⊢
      go_simp
      exact hK _ _ (hJ.still hnd 13 (by decide) rfl)
    · intro L s W hJ hcl hL0 hd K hK
      have e17 : s 17 = .bool true := hJ.val 9 (by decide) (hd 9 (by decide))
      simp only [actOf, List.foldl_cons, List.foldl_nil, Act.put, List.setIfInBounds_toArray, List.set_cons_succ, List.set_cons_zero] at hK ⊢
      simp only [e17] at hK ⊢
      go_simp
      exact hK _ _ (hJ.still hnd 14 (by decide) rfl)
    · intro L s W hJ hcl hL0 hd K hK
      have e17 : s 17 = .bool true := hJ.val 9 (by decide) (hd 9 (by decide))
      have e22 : s 22 = undef := hJ.val 14 (by decide) (hd 14 (by decide))
      simp only [actOf, List.foldl_cons, List.foldl_nil, Act.put, List.setIfInBounds_toArray, List.set_cons_succ, List.set_cons_zero] at hK ⊢
      simp only [e17, e22] at hK ⊢
      have q1 := blk_count (H0.out.call hJ.below)
      have q2 : W.cell? ⟨w.heap.size, 11, none⟩ = some (.slice A n c) := (H0.out.call hJ.below).cell rfl
      go_simp
      exact hK _ _ (hJ.still hnd 15 (by decide) rfl)
    · intro L s W hJ hcl hL0 hd K hK
      have e17 : s 17 = .bool true := hJ.val 9 (by decide) (hd 9 (by decide))
      have e23 : s 23 = undef := hJ.val 15 (by decide) (hd 15 (by decide))
      simp only [actOf, List.foldl_cons, List.foldl_nil, Act.put, List.setIfInBounds_toArray, List.set_cons_succ, List.set_cons_zero] at hK ⊢
      simp only [e17, e23] at hK ⊢
      go_simp
      exact hK _ _ (hJ.still hnd 16 (by decide) rfl)
    · intro L s W hJ hcl hL0 hd K hK
      have e17 : s 17 = .bool true := hJ.val 9 (by decide) (hd 9 (by decide))
      have e21 : s 21 = undef := hJ.val 13 (by decide) (hd 13 (by decide))
      have e24 : s 24 = undef := hJ.val 16 (by decide) (hd 16 (by decide))
      simp only [actOf, List.foldl_cons, List.foldl_nil, Act.put, List.setIfInBounds_toArray, List.set_cons_succ, List.set_cons_zero] at hK ⊢
      simp only [e17, e21, e24] at hK ⊢
      go_simp
      exact hK _ _ (hJ.still hnd 17 (by decide) rfl)
    · intro L s W hJ hcl hL0 hd K hK
      have e17 : s 17 = .bool true := hJ.val 9 (by decide) (hd 9 (by decide))
      have e25 : s 25 = undef := hJ.val 17 (by decide) (hd 17 (by decide))
      simp only [actOf, List.foldl_cons, List.foldl_nil, Act.put, List.setIfInBounds_toArray, List.set_cons_succ, List.set_cons_zero] at hK ⊢
      simp only [e17, e25] at hK ⊢
      go_simp
      exact hK _ _ (hJ.still hnd 18 (by decide) rfl)
    · intro L s W hL hJ
      have e8 : s 8 = .int .i64 (sz : Nat) := hJ.val 0 (by decide) (hL 0 (by decide))
      have e9 : s 9 = .bool false := hJ.val 1 (by decide) (hL 1 (by decide))
      have e10 : s 10 = .bool false := hJ.val 2 (by decide) (hL 2 (by decide))
      have e11 : s 11 = .pointer (some ⟨w.heap.size, 9, none⟩) := hJ.val 3 (by decide) (hL 3 (by decide))
      have e12 : s 12 = .agg #[.int .u64 (hi : Nat), .int .u64 (lo : Nat)] := hJ.val 4 (by decide) (hL 4 (by decide))
      have e13 : s 13 = .int .i64 (sz : Nat) := hJ.val 5 (by decide) (hL 5 (by decide))
      have e14 : s 14 = .bool false := hJ.val 6 (by decide) (hL 6 (by decide))
      have e15 : s 15 = .bool true := hJ.val 7 (by decide) (hL 7 (by decide))
      have e16 : s 16 = .bool true := hJ.val 8 (by decide) (hL 8 (by decide))
      have e17 : s 17 = .bool true := hJ.val 9 (by decide) (hL 9 (by decide))
      have e18 : s 18 = undef := hJ.val 10 (by decide) (hL 10 (by decide))
      have e19 : s 19 = undef := hJ.val 11 (by decide) (hL 11 (by decide))
      have e20 : s 20 = undef := hJ.val 12 (by decide) (hL 12 (by decide))
      have e21 : s 21 = undef := hJ.val 13 (by decide) (hL 13 (by decide))
      have e22 : s 22 = undef := hJ.val 14 (by decide) (hL 14 (by decide))
      have e23 : s 23 = undef := hJ.val 15 (by decide) (hL 15 (by decide))
      have e24 : s 24 = undef := hJ.val 16 (by decide) (hL 16 (by decide))
      have e25 : s 25 = undef := hJ.val 17 (by decide) (hL 17 (by decide))
      have e26 : s 26 = .bool true := hJ.val 18 (by decide) (hL 18 (by decide))
      simp only [actOf, List.foldl_cons, List.foldl_nil, Act.put, List.setIfInBounds_toArray, List.set_cons_succ, List.set_cons_zero]
      simp only [e8, e9, e10, e11, e12, e13, e14, e15, e16, e17, e18, e19, e20, e21, e22, e23, e24, e25, e26]
      have H1 := Lib.hid (H0.out.call hJ.below)
      have HB1 := Lib.hid (HB.out.trans (hJ.below.mono HB.out.size))
      clear hJ hL
      go_wp2_with fail
      go_ret
      refine ⟨?_, HB1.out⟩
      simp
  | true =>
    cases b2 with
    | false =>
      have hm' : (m != (n : Int)) = true := hm
      unfold blkV at *
      go_enter Tryd.func10, Tryd.ntmps10
      go_wp2_with (go_at_call 26; (with_reducible refine (C0.out _).mono ?_); rintro e u1 ⟨rfl, rfl⟩)
      have hnd : ([8, 9, 10, 11, 12, 13, 14, 15, 16, 17, 18, 19, 20, 21, 22, 23, 24, 25, 26] : List Nat).Nodup := by decide
      refine wp_region_steps (by kernel_rfl) [[], [0], [1], [2], [2, 3], [2], [2, 4, 5], [2, 6], [2, 7], [8], [9], [9, 10], [9], [9, 11, 12], [9], [9, 14], [9, 15], [9, 13, 16], [9, 17]] (by kernel_rfl) [8, 9, 10, 11, 12, 13, 14, 15, 16, 17, 18, 19, 20, 21, 22, 23, 24, 25, 26] (by kernel_rfl)
        (JE _ [8, 9, 10, 11, 12, 13, 14, 15, 16, 17, 18, 19, 20, 21, 22, 23, 24, 25, 26] [isV (.int .i64 (sz : Nat)), isV (.bool false), isV (.bool false), isV (.pointer (some ⟨w.heap.size, 9, none⟩)), isV (.agg #[.int .u64 (hi : Nat), .int .u64 (lo : Nat)]), isV (.int .i64 (sz : Nat)), isV (.bool true), isV (.bool false), isV (.bool false), isV (.bool false), isV (.pointer (some ⟨w.heap.size, 9, none⟩)), isV (.agg #[.int .u64 (hi : Nat), .int .u64 (lo : Nat)]), isV (.int .i64 (sz : Nat)), isV (.int .i64 m), isV (.pointer (some ⟨w.heap.size, 11, none⟩)), isV (.slice A n c), isV (.int .i64 (n : Nat)), isV (.bool true), isV (.bool true)])
        (JE.start _ _ _ _) (steps_cons ?_ (steps_cons ?_ (steps_cons ?_ (steps_cons ?_ (steps_cons ?_ (steps_cons ?_ (steps_cons ?_ (steps_cons ?_ (steps_cons ?_ (steps_cons ?_ (steps_cons ?_ (steps_cons ?_ (steps_cons ?_ (steps_cons ?_ (steps_cons ?_ (steps_cons ?_ (steps_cons ?_ (steps_cons ?_ (steps_cons ?_ (steps_nil)))))))))))))))))))) ?_
      · intro L s W hJ hcl hL0 hd K hK
        simp only [actOf, List.foldl_cons, List.foldl_nil, Act.put, List.setIfInBounds_toArray, List.set_cons_succ, List.set_cons_zero] at hK ⊢
        go_simp
        exact hK _ _ (hJ.still hnd 0 (by decide) rfl)
      · intro L s W hJ hcl hL0 hd K hK
        have e8 : s 8 = .int .i64 (sz : Nat) := hJ.val 0 (by decide) (hd 0 (by decide))
        simp only [actOf, List.foldl_cons, List.foldl_nil, Act.put, List.setIfInBounds_toArray, List.set_cons_succ, List.set_cons_zero] at hK ⊢
        simp only [e8] at hK ⊢
        go_simp
        exact hK _ _ (hJ.still hnd 1 (by decide) rfl)
      · intro L s W hJ hcl hL0 hd K hK
        have e9 : s 9 = .bool false := hJ.val 1 (by decide) (hd 1 (by decide))
        simp only [actOf, List.foldl_cons, List.foldl_nil, Act.put, List.setIfInBounds_toArray, List.set_cons_succ, List.set_cons_zero] at hK ⊢
        simp only [e9] at hK ⊢
        go_simp
        exact hK _ _ (hJ.still hnd 2 (by decide) rfl)
      · intro L s W hJ hcl hL0 hd K hK
        have e10 : s 10 = .bool false := hJ.val 2 (by decide) (hd 2 (by decide))
        simp only [actOf, List.foldl_cons, List.foldl_nil, Act.put, List.setIfInBounds_toArray, List.set_cons_succ, List.set_cons_zero] at hK ⊢
        simp only [e10] at hK ⊢
        go_simp
        exact hK _ _ (hJ.still hnd 3 (by decide) rfl)
      · intro L s W hJ hcl hL0 hd K hK
        have e10 : s 10 = .bool false := hJ.val 2 (by decide) (hd 2 (by decide))
        have e11 : s 11 = .pointer (some ⟨w.heap.size, 9, none⟩) := hJ.val 3 (by decide) (hd 3 (by decide))
        simp only [actOf, List.foldl_cons, List.foldl_nil, Act.put, List.setIfInBounds_toArray, List.set_cons_succ, List.set_cons_zero] at hK ⊢
        simp only [e10, e11] at hK ⊢
        have q1 := blk_count (H0.out.call hJ.below)
        have q2 : W.cell? ⟨w.heap.size, 11, none⟩ = some (.slice A n c) := (H0.out.call hJ.below).cell rfl
        go_simp
        exact hK _ _ (hJ.still hnd 4 (by decide) rfl)
      · intro L s W hJ hcl hL0 hd K hK
        have e10 : s 10 = .bool false := hJ.val 2 (by decide) (hd 2 (by decide))
        simp only [actOf, List.foldl_cons, List.foldl_nil, Act.put, List.setIfInBounds_toArray, List.set_cons_succ, List.set_cons_zero] at hK ⊢
        simp only [e10] at hK ⊢
        go_simp
        exact hK _ _ (hJ.still hnd 5 (by decide) rfl)
      · intro L s W hJ hcl hL0 hd K hK
        have e10 : s 10 = .bool false := hJ.val 2 (by decide) (hd 2 (by decide))
        have e12 : s 12 = .agg #[.int .u64 (hi : Nat), .int .u64 (lo : Nat)] := hJ.val 4 (by decide) (hd 4 (by decide))
        have e13 : s 13 = .int .i64 (sz : Nat) := hJ.val 5 (by decide) (hd 5 (by decide))
        simp only [actOf, List.foldl_cons, List.foldl_nil, Act.put, List.setIfInBounds_toArray, List.set_cons_succ, List.set_cons_zero] at hK ⊢
        simp only [e10, e12, e13] at hK ⊢
        go_simp
        refine (C1.out _).mono ?_
        rintro e w9 ⟨rfl, hb⟩
        exact hK _ _ (hJ.step hnd 6 (by decide) hb rfl)
      · intro L s W hJ hcl hL0 hd K hK
        have e10 : s 10 = .bool false := hJ.val 2 (by decide) (hd 2 (by decide))
        have e14 : s 14 = .bool true := hJ.val 6 (by decide) (hd 6 (by decide))
        simp only [actOf, List.foldl_cons, List.foldl_nil, Act.put, List.setIfInBounds_toArray, List.set_cons_succ, List.set_cons_zero] at hK ⊢
        simp only [e10, e14] at hK ⊢
        go_simp
        exact hK _ _ (hJ.still hnd 7 (by decide) rfl)
      · intro L s W hJ hcl hL0 hd K hK
        have e10 : s 10 = .bool false := hJ.val 2 (by decide) (hd 2 (by decide))
        have e15 : s 15 = .bool false := hJ.val 7 (by decide) (hd 7 (by decide))
        simp only [actOf, List.foldl_cons, List.foldl_nil, Act.put, List.setIfInBounds_toArray, List.set_cons_succ, List.set_cons_zero] at hK ⊢
        simp only [e10, e15] at hK ⊢
        go_simp
        exact hK _ _ (hJ.still hnd 8 (by decide) rfl)
      · intro L s W hJ hcl hL0 hd K hK
        have e16 : s 16 = .bool false := hJ.val 8 (by decide) (hd 8 (by decide))
        simp only [actOf, List.foldl_cons, List.foldl_nil, Act.put, List.setIfInBounds_toArray, List.set_cons_succ, List.set_cons_zero] at hK ⊢
        simp only [e16] at hK ⊢
        go_simp
        exact hK _ _ (hJ.still hnd 9 (by decide) rfl)
      · intro L s W hJ hcl hL0 hd K hK
        have e17 : s 17 = .bool false := hJ.val 9 (by decide) (hd 9 (by decide))
        simp only [actOf, List.foldl_cons, List.foldl_nil, Act.put, List.setIfInBounds_toArray, List.set_cons_succ, List.set_cons_zero] at hK ⊢
        simp only [e17] at hK ⊢
        go_simp
        exact hK _ _ (hJ.still hnd 10 (by decide) rfl)
      · intro L s W hJ hcl hL0 hd K hK
        have e17 : s 17 = .bool false := hJ.val 9 (by decide) (hd 9 (by decide))
        have e18 : s 18 = .pointer (some ⟨w.heap.size, 9, none⟩) := hJ.val 10 (by decide) (hd 10 (by decide))
        simp only [actOf, List.foldl_cons, List.foldl_nil, Act.put, List.setIfInBounds_toArray, List.set_cons_succ, List.set_cons_zero] at hK ⊢
        simp only [e17, e18] at hK ⊢
        have q1 := blk_count (H0.out.call hJ.below)
        have q2 : W.cell? ⟨w.heap.size, 11, none⟩ = some (.slice A n c) := (H0.out.call hJ.below).cell rfl
        go_simp
        exact hK _ _ (hJ.still hnd 11 (by decide) rfl)
      · intro L s W hJ hcl hL0 hd K hK
        have e17 : s 17 = .bool false := hJ.val 9 (by decide) (hd 9 (by decide))
        simp only [actOf, List.foldl_cons, List.foldl_nil, Act.put, List.setIfInBounds_toArray, List.set_cons_succ, List.set_cons_zero] at hK ⊢
        simp only [e17] at hK ⊢
        go_simp
        exact hK _ _ (hJ.still hnd 12 (by decide) rfl)
      · intro L s W hJ hcl hL0 hd K hK
        have e17 : s 17 = .bool false := hJ.val 9 (by decide) (hd 9 (by decide))
        have e19 : s 19 = .agg #[.int .u64 (hi : Nat), .int .u64 (lo : Nat)] := hJ.val 11 (by decide) (hd 11 (by decide))
        have e20 : s 20 = .int .i64 (sz : Nat) := hJ.val 12 (by decide) (hd 12 (by decide))
        simp only [actOf, List.foldl_cons, List.foldl_nil, Act.put, List.setIfInBounds_toArray, List.set_cons_succ, List.set_cons_zero] at hK ⊢
        simp only [e17, e19, e20] at hK ⊢
        go_simp
        refine (C2.out _).mono ?_
        rintro e w9 ⟨rfl, hb⟩
        exact hK _ _ (hJ.step hnd 13 (by decide) hb rfl)
      · intro L s W hJ hcl hL0 hd K hK
        have e17 : s 17 = .bool false := hJ.val 9 (by decide) (hd 9 (by decide))
        simp only [actOf, List.foldl_cons, List.foldl_nil, Act.put, List.setIfInBounds_toArray, List.set_cons_succ, List.set_cons_zero] at hK ⊢
        simp only [e17] at hK ⊢
        go_simp
        exact hK _ _ (hJ.still hnd 14 (by decide) rfl)
      · intro L s W hJ hcl hL0 hd K hK
        have e17 : s 17 = .bool false := hJ.val 9 (by decide) (hd 9 (by decide))
        have e22 : s 22 = .pointer (some ⟨w.heap.size, 11, none⟩) := hJ.val 14 (by decide) (hd 14 (by decide))
        simp only [actOf, List.foldl_cons, List.foldl_nil, Act.put, List.setIfInBounds_toArray, List.set_cons_succ, List.set_cons_zero] at hK ⊢
        simp only [e17, e22] at hK ⊢
        have q1 := blk_count (H0.out.call hJ.below)
        have q2 : W.cell? ⟨w.heap.size, 11, none⟩ = some (.slice A n c) := (H0.out.call hJ.below).cell rfl
        go_simp
        exact hK _ _ (hJ.still hnd 15 (by decide) rfl)
      · intro L s W hJ hcl hL0 hd K hK
        have e17 : s 17 = .bool false := hJ.val 9 (by decide) (hd 9 (by decide))
        have e23 : s 23 = .slice A n c := hJ.val 15 (by decide) (hd 15 (by decide))
        simp only [actOf, List.foldl_cons, List.foldl_nil, Act.put, List.setIfInBounds_toArray, List.set_cons_succ, List.set_cons_zero] at hK ⊢
        simp only [e17, e23] at hK ⊢
        go_simp
        exact hK _ _ (hJ.still hnd 16 (by decide) rfl)
      · intro L s W hJ hcl hL0 hd K hK
        have e17 : s 17 = .bool false := hJ.val 9 (by decide) (hd 9 (by decide))
        have e21 : s 21 = .int .i64 m := hJ.val 13 (by decide) (hd 13 (by decide))
        have e24 : s 24 = .int .i64 (n : Nat) := hJ.val 16 (by decide) (hd 16 (by decide))
        simp only [actOf, List.foldl_cons, List.foldl_nil, Act.put, List.setIfInBounds_toArray, List.set_cons_succ, List.set_cons_zero] at hK ⊢
        simp only [e17, e21, e24] at hK ⊢
        go_simp
        exact hK _ _ (hJ.still hnd 17 (by decide) rfl)
      · intro L s W hJ hcl hL0 hd K hK
        have e17 : s 17 = .bool false := hJ.val 9 (by decide) (hd 9 (by decide))
        have e25 : s 25 = .bool true := hJ.val 17 (by decide) (hd 17 (by decide))
        simp only [actOf, List.foldl_cons, List.foldl_nil, Act.put, List.setIfInBounds_toArray, List.set_cons_succ, List.set_cons_zero] at hK ⊢
        simp only [e17, e25] at hK ⊢
        go_simp
        exact hK _ _ (hJ.still hnd 18 (by decide) rfl)
      · intro L s W hL hJ
        have e8 : s 8 = .int .i64 (sz : Nat) := hJ.val 0 (by decide) (hL 0 (by decide))
        have e9 : s 9 = .bool false := hJ.val 1 (by decide) (hL 1 (by decide))
        have e10 : s 10 = .bool false := hJ.val 2 (by decide) (hL 2 (by decide))
        have e11 : s 11 = .pointer (some ⟨w.heap.size, 9, none⟩) := hJ.val 3 (by decide) (hL 3 (by decide))
        have e12 : s 12 = .agg #[.int .u64 (hi : Nat), .int .u64 (lo : Nat)] := hJ.val 4 (by decide) (hL 4 (by decide))
        have e13 : s 13 = .int .i64 (sz : Nat) := hJ.val 5 (by decide) (hL 5 (by decide))
        have e14 : s 14 = .bool true := hJ.val 6 (by decide) (hL 6 (by decide))
        have e15 : s 15 = .bool false := hJ.val 7 (by decide) (hL 7 (by decide))
        have e16 : s 16 = .bool false := hJ.val 8 (by decide) (hL 8 (by decide))
        have e17 : s 17 = .bool false := hJ.val 9 (by decide) (hL 9 (by decide))
        have e18 : s 18 = .pointer (some ⟨w.heap.size, 9, none⟩) := hJ.val 10 (by decide) (hL 10 (by decide))
        have e19 : s 19 = .agg #[.int .u64 (hi : Nat), .int .u64 (lo : Nat)] := hJ.val 11 (by decide) (hL 11 (by decide))
        have e20 : s 20 = .int .i64 (sz : Nat) := hJ.val 12 (by decide) (hL 12 (by decide))
        have e21 : s 21 = .int .i64 m := hJ.val 13 (by decide) (hL 13 (by decide))
        have e22 : s 22 = .pointer (some ⟨w.heap.size, 11, none⟩) := hJ.val 14 (by decide) (hL 14 (by decide))
        have e23 : s 23 = .slice A n c := hJ.val 15 (by decide) (hL 15 (by decide))
        have e24 : s 24 = .int .i64 (n : Nat) := hJ.val 16 (by decide) (hL 16 (by decide))
        have e25 : s 25 = .bool true := hJ.val 17 (by decide) (hL 17 (by decide))
        have e26 : s 26 = .bool true := hJ.val 18 (by decide) (hL 18 (by decide))
        simp only [actOf, List.foldl_cons, List.foldl_nil, Act.put, List.setIfInBounds_toArray, List.set_cons_succ, List.set_cons_zero]
        simp only [e8, e9, e10, e11, e12, e13, e14, e15, e16, e17, e18, e19, e20, e21, e22, e23, e24, e25, e26]
        have H1 := Lib.hid (H0.out.call hJ.below)
        have HB1 := Lib.hid (HB.out.trans (hJ.below.mono HB.out.size))
        clear hJ hL
        go_wp2_with fail
        go_ret
        refine ⟨?_, HB1.out⟩
        simp
    | true =>
      have hm' : (m != (n : Int)) = false := hm
      unfold blkV at *
      go_enter Tryd.func10, Tryd.ntmps10
      go_wp2_with (go_at_call 26; (with_reducible refine (C0.out _).mono ?_); rintro e u1 ⟨rfl, rfl⟩)
      have hnd : ([8, 9, 10, 11, 12, 13, 14, 15, 16, 17, 18, 19, 20, 21, 22, 23, 24, 25, 26] : List Nat).Nodup := by decide
      refine wp_region_steps (by kernel_rfl) [[], [0], [1], [2], [2, 3], [2], [2, 4, 5], [2, 6], [2, 7], [8], [9], [9, 10], [9], [9, 11, 12], [9], [9, 14], [9, 15], [9, 13, 16], [9, 17]] (by kernel_rfl) [8, 9, 10, 11, 12, 13, 14, 15, 16, 17, 18, 19, 20, 21, 22, 23, 24, 25, 26] (by kernel_rfl)
        (JE _ [8, 9, 10, 11, 12, 13, 14, 15, 16, 17, 18, 19, 20, 21, 22, 23, 24, 25, 26] [isV (.int .i64 (sz : Nat)), isV (.bool false), isV (.bool false), isV (.pointer (some ⟨w.heap.size, 9, none⟩)), isV (.agg #[.int .u64 (hi : Nat), .int .u64 (lo : Nat)]), isV (.int .i64 (sz : Nat)), isV (.bool true), isV (.bool false), isV (.bool false), isV (.bool false), isV (.pointer (some ⟨w.heap.size, 9, none⟩)), isV (.agg #[.int .u64 (hi : Nat), .int .u64 (lo : Nat)]), isV (.int .i64 (sz : Nat)), isV (.int .i64 m), isV (.pointer (some ⟨w.heap.size, 11, none⟩)), isV (.slice A n c), isV (.int .i64 (n : Nat)), isV (.bool false), isV (.bool false)])
        (JE.start _ _ _ _) (steps_cons ?_ (steps_cons ?_ (steps_cons ?_ (steps_cons ?_ (steps_cons ?_ (steps_cons ?_ (steps_cons ?_ (steps_cons ?_ (steps_cons ?_ (steps_cons ?_ (steps_cons ?_ (steps_cons ?_ (steps_cons ?_ (steps_cons ?_ (steps_cons ?_ (steps_cons ?_ (steps_cons ?_ (steps_cons ?_ (steps_cons ?_ (steps_nil)))))))))))))))))))) ?_
      · intro L s W hJ hcl hL0 hd K hK
        simp only [actOf, List.foldl_cons, List.foldl_nil, Act.put, List.setIfInBounds_toArray, List.set_cons_succ, List.set_cons_zero] at hK ⊢
        go_simp
        exact hK _ _ (hJ.still hnd 0 (by decide) rfl)
      · intro L s W hJ hcl hL0 hd K hK
        have e8 : s 8 = .int .i64 (sz : Nat) := hJ.val 0 (by decide) (hd 0 (by decide))
        simp only [actOf, List.foldl_cons, List.foldl_nil, Act.put, List.setIfInBounds_toArray, List.set_cons_succ, List.set_cons_zero] at hK ⊢
        simp only [e8] at hK ⊢
        go_simp
        exact hK _ _ (hJ.still hnd 1 (by decide) rfl)
      · intro L s W hJ hcl hL0 hd K hK
        have e9 : s 9 = .bool false := hJ.val 1 (by decide) (hd 1 (by decide))
        simp only [actOf, List.foldl_cons, List.foldl_nil, Act.put, List.setIfInBounds_toArray, List.set_cons_succ, List.set_cons_zero] at hK ⊢
        simp only [e9] at hK ⊢
        go_simp
        exact hK _ _ (hJ.still hnd 2 (by decide) rfl)
      · intro L s W hJ hcl hL0 hd K hK
        have e10 : s 10 = .bool false := hJ.val 2 (by decide) (hd 2 (by decide))
        simp only [actOf, List.foldl_cons, List.foldl_nil, Act.put, List.setIfInBounds_toArray, List.set_cons_succ, List.set_cons_zero] at hK ⊢
        simp only [e10] at hK ⊢
        go_simp
        exact hK _ _ (hJ.still hnd 3 (by decide) rfl)
      · intro L s W hJ hcl hL0 hd K hK
        have e10 : s 10 = .bool false := hJ.val 2 (by decide) (hd 2 (by decide))
        have e11 : s 11 = .pointer (some ⟨w.heap.size, 9, none⟩) := hJ.val 3 (by decide) (hd 3 (by decide))
        simp only [actOf, List.foldl_cons, List.foldl_nil, Act.put, List.setIfInBounds_toArray, List.set_cons_succ, List.set_cons_zero] at hK ⊢
        simp only [e10, e11] at hK ⊢
        have q1 := blk_count (H0.out.call hJ.below)
        have q2 : W.cell? ⟨w.heap.size, 11, none⟩ = some (.slice A n c) := (H0.out.call hJ.below).cell rfl
        go_simp
        exact hK _ _ (hJ.still hnd 4 (by decide) rfl)
      · intro L s W hJ hcl hL0 hd K hK
        have e10 : s 10 = .bool false := hJ.val 2 (by decide) (hd 2 (by decide))
        simp only [actOf, List.foldl_cons, List.foldl_nil, Act.put, List.setIfInBounds_toArray, List.set_cons_succ, List.set_cons_zero] at hK ⊢
        simp only [e10] at hK ⊢
        go_simp
        exact hK _ _ (hJ.still hnd 5 (by decide) rfl)
      · intro L s W hJ hcl hL0 hd K hK
        have e10 : s 10 = .bool false := hJ.val 2 (by decide) (hd 2 (by decide))
        have e12 : s 12 = .agg #[.int .u64 (hi : Nat), .int .u64 (lo : Nat)] := hJ.val 4 (by decide) (hd 4 (by decide))
        have e13 : s 13 = .int .i64 (sz : Nat) := hJ.val 5 (by decide) (hd 5 (by decide))
        simp only [actOf, List.foldl_cons, List.foldl_nil, Act.put, List.setIfInBounds_toArray, List.set_cons_succ, List.set_cons_zero] at hK ⊢
        simp only [e10, e12, e13] at hK ⊢
        go_simp
        refine (C1.out _).mono ?_
        rintro e w9 ⟨rfl, hb⟩
        exact hK _ _ (hJ.step hnd 6 (by decide) hb rfl)
      · intro L s W hJ hcl hL0 hd K hK
        have e10 : s 10 = .bool false := hJ.val 2 (by decide) (hd 2 (by decide))
        have e14 : s 14 = .bool true := hJ.val 6 (by decide) (hd 6 (by decide))
        simp only [actOf, List.foldl_cons, List.foldl_nil, Act.put, List.setIfInBounds_toArray, List.set_cons_succ, List.set_cons_zero] at hK ⊢
        simp only [e10, e14] at hK ⊢
        go_simp
        exact hK _ _ (hJ.still hnd 7 (by decide) rfl)
      · intro L s W hJ hcl hL0 hd K hK
        have e10 : s 10 = .bool false := hJ.val 2 (by decide) (hd 2 (by decide))
        have e15 : s 15 = .bool false := hJ.val 7 (by decide) (hd 7 (by decide))
        simp only [actOf, List.foldl_cons, List.foldl_nil, Act.put, List.setIfInBounds_toArray, List.set_cons_succ, List.set_cons_zero] at hK ⊢
        simp only [e10, e15] at hK ⊢
        go_simp
        exact hK _ _ (hJ.still hnd 8 (by decide) rfl)
      · intro L s W hJ hcl hL0 hd K hK
        have e16 : s 16 = .bool false := hJ.val 8 (by decide) (hd 8 (by decide))
        simp only [actOf, List.foldl_cons, List.foldl_nil, Act.put, List.setIfInBounds_toArray, List.set_cons_succ, List.set_cons_zero] at hK ⊢
        simp only [e16] at hK ⊢
        go_simp
        exact hK _ _ (hJ.still hnd 9 (by decide) rfl)
      · intro L s W hJ hcl hL0 hd K hK
        have e17 : s 17 = .bool false := hJ.val 9 (by decide) (hd 9 (by decide))
        simp only [actOf, List.foldl_cons, List.foldl_nil, Act.put, List.setIfInBounds_toArray, List.set_cons_succ, List.set_cons_zero] at hK ⊢
        simp only [e17] at hK ⊢
        go_simp
        exact hK _ _ (hJ.still hnd 10 (by decide) rfl)
      · intro L s W hJ hcl hL0 hd K hK
        have e17 : s 17 = .bool false := hJ.val 9 (by decide) (hd 9 (by decide))
        have e18 : s 18 = .pointer (some ⟨w.heap.size, 9, none⟩) := hJ.val 10 (by decide) (hd 10 (by decide))
        simp only [actOf, List.foldl_cons, List.foldl_nil, Act.put, List.setIfInBounds_toArray, List.set_cons_succ, List.set_cons_zero] at hK ⊢
        simp only [e17, e18] at hK ⊢
        have q1 := blk_count (H0.out.call hJ.below)
        have q2 : W.cell? ⟨w.heap.size, 11, none⟩ = some (.slice A n c) := (H0.out.call hJ.below).cell rfl
        go_simp
        exact hK _ _ (hJ.still hnd 11 (by decide) rfl)
      · intro L s W hJ hcl hL0 hd K hK
        have e17 : s 17 = .bool false := hJ.val 9 (by decide) (hd 9 (by decide))
        simp only [actOf, List.foldl_cons, List.foldl_nil, Act.put, List.setIfInBounds_toArray, List.set_cons_succ, List.set_cons_zero] at hK ⊢
        simp only [e17] at hK ⊢
        go_simp
        exact hK _ _ (hJ.still hnd 12 (by decide) rfl)
      · intro L s W hJ hcl hL0 hd K hK
        have e17 : s 17 = .bool false := hJ.val 9 (by decide) (hd 9 (by decide))
        have e19 : s 19 = .agg #[.int .u64 (hi : Nat), .int .u64 (lo : Nat)] := hJ.val 11 (by decide) (hd 11 (by decide))
        have e20 : s 20 = .int .i64 (sz : Nat) := hJ.val 12 (by decide) (hd 12 (by decide))
        simp only [actOf, List.foldl_cons, List.foldl_nil, Act.put, List.setIfInBounds_toArray, List.set_cons_succ, List.set_cons_zero] at hK ⊢
        simp only [e17, e19, e20] at hK ⊢
        go_simp
        refine (C2.out _).mono ?_
        rintro e w9 ⟨rfl, hb⟩
        exact hK _ _ (hJ.step hnd 13 (by decide) hb rfl)
      · intro L s W hJ hcl hL0 hd K hK
        have e17 : s 17 = .bool false := hJ.val 9 (by decide) (hd 9 (by decide))
        simp only [actOf, List.foldl_cons, List.foldl_nil, Act.put, List.setIfInBounds_toArray, List.set_cons_succ, List.set_cons_zero] at hK ⊢
        simp only [e17] at hK ⊢
        go_simp
        exact hK _ _ (hJ.still hnd 14 (by decide) rfl)
      · intro L s W hJ hcl hL0 hd K hK
        have e17 : s 17 = .bool false := hJ.val 9 (by decide) (hd 9 (by decide))
        have e22 : s 22 = .pointer (some ⟨w.heap.size, 11, none⟩) := hJ.val 14 (by decide) (hd 14 (by decide))
        simp only [actOf, List.foldl_cons, List.foldl_nil, Act.put, List.setIfInBounds_toArray, List.set_cons_succ, List.set_cons_zero] at hK ⊢
        simp only [e17, e22] at hK ⊢
        have q1 := blk_count (H0.out.call hJ.below)
        have q2 : W.cell? ⟨w.heap.size, 11, none⟩ = some (.slice A n c) := (H0.out.call hJ.below).cell rfl
        go_simp
        exact hK _ _ (hJ.still hnd 15 (by decide) rfl)
      · intro L s W hJ hcl hL0 hd K hK
        have e17 : s 17 = .bool false := hJ.val 9 (by decide) (hd 9 (by decide))
        have e23 : s 23 = .slice A n c := hJ.val 15 (by decide) (hd 15 (by decide))
        simp only [actOf, List.foldl_cons, List.foldl_nil, Act.put, List.setIfInBounds_toArray, List.set_cons_succ, List.set_cons_zero] at hK ⊢
        simp only [e17, e23] at hK ⊢
        go_simp
        exact hK _ _ (hJ.still hnd 16 (by decide) rfl)
      · intro L s W hJ hcl hL0 hd K hK
        have e17 : s 17 = .bool false := hJ.val 9 (by decide) (hd 9 (by decide))
        have e21 : s 21 = .int .i64 m := hJ.val 13 (by decide) (hd 13 (by decide))
        have e24 : s 24 = .int .i64 (n : Nat) := hJ.val 16 (by decide) (hd 16 (by decide))
        simp only [actOf, List.foldl_cons, List.foldl_nil, Act.put, List.setIfInBounds_toArray, List.set_cons_succ, List.set_cons_zero] at hK ⊢
        simp only [e17, e21, e24] at hK ⊢
        go_simp
        exact hK _ _ (hJ.still hnd 17 (by decide) rfl)
      · intro L s W hJ hcl hL0 hd K hK
        have e17 : s 17 = .bool false := hJ.val 9 (by decide) (hd 9 (by decide))
        have e25 : s 25 = .bool false := hJ.val 17 (by decide) (hd 17 (by decide))
        simp only [actOf, List.foldl_cons, List.foldl_nil, Act.put, List.setIfInBounds_toArray, List.set_cons_succ, List.set_cons_zero] at hK ⊢
        simp only [e17, e25] at hK ⊢
        go_simp
        exact hK _ _ (hJ.still hnd 18 (by decide) rfl)
      · intro L s W hL hJ
        have e8 : s 8 = .int .i64 (sz : Nat) := hJ.val 0 (by decide) (hL 0 (by decide))
        have e9 : s 9 = .bool false := hJ.val 1 (by decide) (hL 1 (by decide))
        have e10 : s 10 = .bool false := hJ.val 2 (by decide) (hL 2 (by decide))
        have e11 : s 11 = .pointer (some ⟨w.heap.size, 9, none⟩) := hJ.val 3 (by decide) (hL 3 (by decide))
        have e12 : s 12 = .agg #[.int .u64 (hi : Nat), .int .u64 (lo : Nat)] := hJ.val 4 (by decide) (hL 4 (by decide))
        have e13 : s 13 = .int .i64 (sz : Nat) := hJ.val 5 (by decide) (hL 5 (by decide))
        have e14 : s 14 = .bool true := hJ.val 6 (by decide) (hL 6 (by decide))
        have e15 : s 15 = .bool false := hJ.val 7 (by decide) (hL 7 (by decide))
        have e16 : s 16 = .bool false := hJ.val 8 (by decide) (hL 8 (by decide))
        have e17 : s 17 = .bool false := hJ.val 9 (by decide) (hL 9 (by decide))
        have e18 : s 18 = .pointer (some ⟨w.heap.size, 9, none⟩) := hJ.val 10 (by decide) (hL 10 (by decide))
        have e19 : s 19 = .agg #[.int .u64 (hi : Nat), .int .u64 (lo : Nat)] := hJ.val 11 (by decide) (hL 11 (by decide))
        have e20 : s 20 = .int .i64 (sz : Nat) := hJ.val 12 (by decide) (hL 12 (by decide))
        have e21 : s 21 = .int .i64 m := hJ.val 13 (by decide) (hL 13 (by decide))
        have e22 : s 22 = .pointer (some ⟨w.heap.size, 11, none⟩) := hJ.val 14 (by decide) (hL 14 (by decide))
        have e23 : s 23 = .slice A n c := hJ.val 15 (by decide) (hL 15 (by decide))
        have e24 : s 24 = .int .i64 (n : Nat) := hJ.val 16 (by decide) (hL 16 (by decide))
        have e25 : s 25 = .bool false := hJ.val 17 (by decide) (hL 17 (by decide))
        have e26 : s 26 = .bool false := hJ.val 18 (by decide) (hL 18 (by decide))
        simp only [actOf, List.foldl_cons, List.foldl_nil, Act.put, List.setIfInBounds_toArray, List.set_cons_succ, List.set_cons_zero]
        simp only [e8, e9, e10, e11, e12, e13, e14, e15, e16, e17, e18, e19, e20, e21, e22, e23, e24, e25, e26]
        have H1 := Lib.hid (H0.out.call hJ.below)
        have HB1 := Lib.hid (HB.out.trans (hJ.below.mono HB.out.size))
        clear hJ hL
        go_wp2_with fail
        go_loopg [4] 8 (fun g i wr => ∃ k : Nat, k + g = 8 ∧ i = .int .i64 (k : Nat) ∧ wr = W ∧ Hid (sz = 64 → ∀ i, i < k → h i < 4294967296))
        case atStart => exact ⟨0, by omega, rfl, rfl, fun _ i hi => by omega⟩
        case round =>
          obtain ⟨k, hk, rfl, rfl, HL⟩ := hrel
          by_cases h8 : k < 8
          · obtain ⟨g, rfl⟩ : ∃ g, gk = g + 1 := ⟨gk - 1, by omega⟩
            have q1 : wr.cell? ⟨w.heap.size, 1 + k, none⟩ = some (.int .u64 (h k : Nat)) := H1.out.cell (HH.out k h8)
            have i1 : (k : Int) < 8 := by omega
            by_cases h64 : sz = 64
            · have k1 : ((sz : Int) == 64) = true := by rw [beq_iff_eq]; omega
              by_cases hlow : h k < 4294967296
              · have k2 : decide ((h k : Int) > 4294967295) = false := decide_eq_false (by omega)
                have k3 : decide ((4294967295 : Int) < (h k : Int)) = false := decide_eq_false (by omega)
                have HL2 : Hid (sz = 64 → ∀ i, i < k + 1 → h i < 4294967296) := fun e i hi => by
                  rcases Nat.lt_succ_iff_lt_or_eq.1 hi with h' | h'
                  · exact HL.out e i h'
                  · subst h'; exact hlow
                clear hlow h64
                generalize h k = y at *
                go_wp2_with fail
                go_roundg g
                case measure => omega
                case rel => exact ⟨k + 1, by omega, by go_num, rfl, HL2⟩
              · have k2 : decide ((h k : Int) > 4294967295) = true := decide_eq_true (by omega)
                have k3 : decide ((4294967295 : Int) < (h k : Int)) = true := decide_eq_true (by omega)
                have HF : Hid (low32 h = false) := by
                  have : ¬ low32 h = true := fun e => hlow ((low32_iff h).1 e k h8)
                  exact Bool.eq_false_iff.2 this
                have h128 : decide (sz = 128) = false := decide_eq_false (by omega)
                clear hlow h64
                generalize h k = y at *
                go_wp2_with fail
                go_ret
                refine ⟨?_, HB1.out⟩
                rw [HF.out, h128]
                simp
            · have k1 : ((sz : Int) == 64) = false := by rw [beq_eq_false_iff_ne]; omega
              go_wp2_with fail
              go_roundg g
              case measure => omega
              case rel => exact ⟨k + 1, by omega, by go_num, rfl, fun e => absurd e h64⟩
          · obtain rfl : k = 8 := by omega
            have HF : Hid ((decide (sz = 128) || low32 h) = true) := by
              rcases hs with h64 | h64
              · have := (low32_iff h).2 (HL.out h64)
                show _ = _
                rw [this]; simp
              · show _ = _
                rw [decide_eq_true h64]; rfl
            go_wp2_with fail
            go_ret
            refine ⟨?_, HB1.out⟩
            rw [HF.out]
            simp
theorem refRight11_any (alg : Int) (h : Nat → Nat) (hi lo : Nat) (hhi : hi < 18446744073709551616) (hl : lo < 18446744073709551616) (A : Option Addr) (n c : Nat) (fl : Bool) (w : World) :
    Calls Tryd.prog 10 #[.agg (blkV alg h hi lo (.slice A n c) fl)] w fun e w' => e = .returned (.bool (right11 alg h (numC hi lo) n)) ∧ Below w.heap.size w w' := by
  unfold right11
  have C0 := Lib.hid (fun W => refBlock11_any alg W)
  rcases sz11_cases alg with ⟨hs, -⟩ | ⟨hs, -⟩ | ⟨hs, -⟩
  · rw [hs] at C0 ⊢
    rw [if_neg (by decide)]
    exact refRight11_core alg 64 (.inl rfl) h hi lo A n c fl _ _ (modC (numC hi lo) (64 : Nat)) rfl C0.out (fun W => refFits_any hi lo hhi hl (64 : Nat) W) (fun W => refMod_any hi lo hhi hl (64 : Nat) (by omega) (by omega) W) w
  · rw [hs] at C0 ⊢
    rw [if_neg (by decide)]
    exact refRight11_core alg 128 (.inr rfl) h hi lo A n c fl _ _ (modC (numC hi lo) (128 : Nat)) rfl C0.out (fun W => refFits_any hi lo hhi hl (128 : Nat) W) (fun W => refMod_any hi lo hhi hl (128 : Nat) (by omega) (by omega) W) w
  · rw [hs] at C0 ⊢
    rw [if_pos rfl]
    have HB := Lib.hid ((Below.refl _ w).alloc (Nat.le_refl _) (.cells (blkV alg h hi lo (.slice A n c) fl) 28))
    unfold blkV at *
    go_enter Tryd.func10, Tryd.ntmps10
    go_wp2_with (go_at_call 26; (with_reducible refine (C0.out _).mono ?_); rintro e u1 ⟨rfl, rfl⟩)
    have hnd : ([8, 9, 10, 11, 12, 13, 14, 15, 16, 17, 18, 19, 20, 21, 22, 23, 24, 25, 26] : List Nat).Nodup := by decide
    refine wp_region_steps (by kernel_rfl) [[], [0], [1], [2], [2, 3], [2], [2, 4, 5], [2, 6], [2, 7], [8], [9], [9, 10], [9], [9, 11, 12], [9], [9, 14], [9, 15], [9, 13, 16], [9, 17]] (by kernel_rfl) [8, 9, 10, 11, 12, 13, 14, 15, 16, 17, 18, 19, 20, 21, 22, 23, 24, 25, 26] (by kernel_rfl)
      (JE _ [8, 9, 10, 11, 12, 13, 14, 15, 16, 17, 18, 19, 20, 21, 22, 23, 24, 25, 26] [isV (.int .i64 0), isV (.bool true), isV (.bool true), isV (undef), isV (undef), isV (undef), isV (undef), isV (undef), isV (.bool true), isV (.bool true), isV (undef), isV (undef), isV (undef), isV (undef), isV (undef), isV (undef), isV (undef), isV (undef), isV (.bool true)])
      (JE.start _ _ _ _) (steps_cons ?_ (steps_cons ?_ (steps_cons ?_ (steps_cons ?_ (steps_cons ?_ (steps_cons ?_ (steps_cons ?_ (steps_cons ?_ (steps_cons ?_ (steps_cons ?_ (steps_cons ?_ (steps_cons ?_ (steps_cons ?_ (steps_cons ?_ (steps_cons ?_ (steps_cons ?_ (steps_cons ?_ (steps_cons ?_ (steps_cons ?_ (steps_nil)))))))))))))))))))) ?_
    · intro L s W hJ hcl hL0 hd K hK
      simp only [actOf, List.foldl_cons, List.foldl_nil, Act.put, List.setIfInBounds_toArray, List.set_cons_succ, List.set_cons_zero] at hK ⊢
      go_simp
      exact hK _ _ (hJ.still hnd 0 (by decide) rfl)
    · intro L s W hJ hcl hL0 hd K hK
      have e8 : s 8 = .int .i64 0 := hJ.val 0 (by decide) (hd 0 (by decide))
      simp only [actOf, List.foldl_cons, List.foldl_nil, Act.put, List.setIfInBounds_toArray, List.set_cons_succ, List.set_cons_zero] at hK ⊢
      simp only [e8] at hK ⊢
      go_simp
      exact hK _ _ (hJ.still hnd 1 (by decide) rfl)
    · intro L s W hJ hcl hL0 hd K hK
      have e9 : s 9 = .bool true := hJ.val 1 (by decide) (hd 1 (by decide))
      simp only [actOf, List.foldl_cons, List.foldl_nil, Act.put, List.setIfInBounds_toArray, List.set_cons_succ, List.set_cons_zero] at hK ⊢
      simp only [e9] at hK ⊢
      go_simp
      exact hK _ _ (hJ.still hnd 2 (by decide) rfl)
    · intro L s W hJ hcl hL0 hd K hK
      have e10 : s 10 = .bool true := hJ.val 2 (by decide) (hd 2 (by decide))
      simp only [actOf, List.foldl_cons, List.foldl_nil, Act.put, List.setIfInBounds_toArray, List.set_cons_succ, List.set_cons_zero] at hK ⊢
      simp only [e10] at hK ⊢
      go_simp
      exact hK _ _ (hJ.still hnd 3 (by decide) rfl)
    · intro L s W hJ hcl hL0 hd K hK
      have e10 : s 10 = .bool true := hJ.val 2 (by decide) (hd 2 (by decide))
      have e11 : s 11 = undef := hJ.val 3 (by decide) (hd 3 (by decide))
      simp only [actOf, List.foldl_cons, List.foldl_nil, Act.put, List.setIfInBounds_toArray, List.set_cons_succ, List.set_cons_zero] at hK ⊢
      simp only [e10, e11] at hK ⊢
      go_simp
      exact hK _ _ (hJ.still hnd 4 (by decide) rfl)
    · intro L s W hJ hcl hL0 hd K hK
      have e10 : s 10 = .bool true := hJ.val 2 (by decide) (hd 2 (by decide))
      simp only [actOf, List.foldl_cons, List.foldl_nil, Act.put, List.setIfInBounds_toArray, List.set_cons_succ, List.set_cons_zero] at hK ⊢
      simp only [e10] at hK ⊢
      go_simp
      exact hK _ _ (hJ.still hnd 5 (by decide) rfl)
    · intro L s W hJ hcl hL0 hd K hK
      have e10 : s 10 = .bool true := hJ.val 2 (by decide) (hd 2 (by decide))
      have e12 : s 12 = undef := hJ.val 4 (by decide) (hd 4 (by decide))
      have e13 : s 13 = undef := hJ.val 5 (by decide) (hd 5 (by decide))
      simp only [actOf, List.foldl_cons, List.foldl_nil, Act.put, List.setIfInBounds_toArray, List.set_cons_succ, List.set_cons_zero] at hK ⊢
      simp only [e10, e12, e13] at hK ⊢
      go_simp
      exact hK _ _ (hJ.still hnd 6 (by decide) rfl)
    · intro L s W hJ hcl hL0 hd K hK
      have e10 : s 10 = .bool true := hJ.val 2 (by decide) (hd 2 (by decide))
      have e14 : s 14 = undef := hJ.val 6 (by decide) (hd 6 (by decide))
      simp only [actOf, List.foldl_cons, List.foldl_nil, Act.put, List.setIfInBounds_toArray, List.set_cons_succ, List.set_cons_zero] at hK ⊢
      simp only [e10, e14] at hK ⊢
      go_simp
      exact hK _ _ (hJ.still hnd 7 (by decide) rfl)
    · intro L s W hJ hcl hL0 hd K hK
      have e10 : s 10 = .bool true := hJ.val 2 (by decide) (hd 2 (by decide))
      have e15 : s 15 = undef := hJ.val 7 (by decide) (hd 7 (by decide))
      simp only [actOf, List.foldl_cons, List.foldl_nil, Act.put, List.setIfInBounds_toArray, List.set_cons_succ, List.set_cons_zero] at hK ⊢
      simp only [e10, e15] at hK ⊢
      go_simp
      exact hK _ _ (hJ.still hnd 8 (by decide) rfl)
    · intro L s W hJ hcl hL0 hd K hK
      have e16 : s 16 = .bool true := hJ.val 8 (by decide) (hd 8 (by decide))
      simp only [actOf, List.foldl_cons, List.foldl_nil, Act.put, List.setIfInBounds_toArray, List.set_cons_succ, List.set_cons_zero] at hK ⊢
      simp only [e16] at hK ⊢
      go_simp
      exact hK _ _ (hJ.still hnd 9 (by decide) rfl)
    · intro L s W hJ hcl hL0 hd K hK
      have e17 : s 17 = .bool true := hJ.val 9 (by decide) (hd 9 (by decide))
      simp only [actOf, List.foldl_cons, List.foldl_nil, Act.put, List.setIfInBounds_toArray, List.set_cons_succ, List.set_cons_zero] at hK ⊢
      simp only [e17] at hK ⊢
      go_simp
      exact hK _ _ (hJ.still hnd 10 (by decide) rfl)
    · intro L s W hJ hcl hL0 hd K hK
      have e17 : s 17 = .bool true := hJ.val 9 (by decide) (hd 9 (by decide))
      have e18 : s 18 = undef := hJ.val 10 (by decide) (hd 10 (by decide))
      simp only [actOf, List.foldl_cons, List.foldl_nil, Act.put, List.setIfInBounds_toArray, List.set_cons_succ, List.set_cons_zero] at hK ⊢
      simp only [e17, e18] at hK ⊢
      go_simp
      exact hK _ _ (hJ.still hnd 11 (by decide) rfl)
    · intro L s W hJ hcl hL0 hd K hK
      have e17 : s 17 = .bool true := hJ.val 9 (by decide) (hd 9 (by decide))
      simp only [actOf, List.foldl_cons, List.foldl_nil, Act.put, List.setIfInBounds_toArray, List.set_cons_succ, List.set_cons_zero] at hK ⊢
      simp only [e17] at hK ⊢
      go_simp
      exact hK _ _ (hJ.still hnd 12 (by decide) rfl)
    · intro L s W hJ hcl hL0 hd K hK
      have e17 : s 17 = .bool true := hJ.val 9 (by decide) (hd 9 (by decide))
      have e19 : s 19 = undef := hJ.val 11 (by decide) (hd 11 (by decide))
      have e20 : s 20 = undef := hJ.val 12 (by decide) (hd 12 (by decide))
      simp only [actOf, List.foldl_cons, List.foldl_nil, Act.put, List.setIfInBounds_toArray, List.set_cons_succ, List.set_cons_zero] at hK ⊢
      simp only [e17, e19, e20] at hK ⊢
      go_simp
      exact hK _ _ (hJ.still hnd 13 (by decide) rfl)
    · intro L s W hJ hcl hL0 hd K hK
      have e17 : s 17 = .bool true := hJ.val 9 (by decide) (hd 9 (by decide))
      simp only [actOf, List.foldl_cons, List.foldl_nil, Act.put, List.setIfInBounds_toArray, List.set_cons_succ, List.set_cons_zero] at hK ⊢
      simp only [e17] at hK ⊢
      go_simp
      exact hK _ _ (hJ.still hnd 14 (by decide) rfl)
    · intro L s W hJ hcl hL0 hd K hK
      have e17 : s 17 = .bool true := hJ.val 9 (by decide) (hd 9 (by decide))
      have e22 : s 22 = undef := hJ.val 14 (by decide) (hd 14 (by decide))
      simp only [actOf, List.foldl_cons, List.foldl_nil, Act.put, List.setIfInBounds_toArray, List.set_cons_succ, List.set_cons_zero] at hK ⊢
      simp only [e17, e22] at hK ⊢
      go_simp
      exact hK _ _ (hJ.still hnd 15 (by decide) rfl)
    · intro L s W hJ hcl hL0 hd K hK
      have e17 : s 17 = .bool true := hJ.val 9 (by decide) (hd 9 (by decide))
      have e23 : s 23 = undef := hJ.val 15 (by decide) (hd 15 (by decide))
      simp only [actOf, List.foldl_cons, List.foldl_nil, Act.put, List.setIfInBounds_toArray, List.set_cons_succ, List.set_cons_zero] at hK ⊢
      simp only [e17, e23] at hK ⊢
      go_simp
      exact hK _ _ (hJ.still hnd 16 (by decide) rfl)
    · intro L s W hJ hcl hL0 hd K hK
      have e17 : s 17 = .bool true := hJ.val 9 (by decide) (hd 9 (by decide))
      have e21 : s 21 = undef := hJ.val 13 (by decide) (hd 13 (by decide))
      have e24 : s 24 = undef := hJ.val 16 (by decide) (hd 16 (by decide))
      simp only [actOf, List.foldl_cons, List.foldl_nil, Act.put, List.setIfInBounds_toArray, List.set_cons_succ, List.set_cons_zero] at hK ⊢
      simp only [e17, e21, e24] at hK ⊢
      go_simp
      exact hK _ _ (hJ.still hnd 17 (by decide) rfl)
    · intro L s W hJ hcl hL0 hd K hK
      have e17 : s 17 = .bool true := hJ.val 9 (by decide) (hd 9 (by decide))
      have e25 : s 25 = undef := hJ.val 17 (by decide) (hd 17 (by decide))
      simp only [actOf, List.foldl_cons, List.foldl_nil, Act.put, List.setIfInBounds_toArray, List.set_cons_succ, List.set_cons_zero] at hK ⊢
      simp only [e17, e25] at hK ⊢
      go_simp
      exact hK _ _ (hJ.still hnd 18 (by decide) rfl)
    · intro L s W hL hJ
      have e8 : s 8 = .int .i64 0 := hJ.val 0 (by decide) (hL 0 (by decide))
      have e9 : s 9 = .bool true := hJ.val 1 (by decide) (hL 1 (by decide))
      have e10 : s 10 = .bool true := hJ.val 2 (by decide) (hL 2 (by decide))
      have e11 : s 11 = undef := hJ.val 3 (by decide) (hL 3 (by decide))
      have e12 : s 12 = undef := hJ.val 4 (by decide) (hL 4 (by decide))
      have e13 : s 13 = undef := hJ.val 5 (by decide) (hL 5 (by decide))
      have e14 : s 14 = undef := hJ.val 6 (by decide) (hL 6 (by decide))
      have e15 : s 15 = undef := hJ.val 7 (by decide) (hL 7 (by decide))
      have e16 : s 16 = .bool true := hJ.val 8 (by decide) (hL 8 (by decide))
      have e17 : s 17 = .bool true := hJ.val 9 (by decide) (hL 9 (by decide))
      have e18 : s 18 = undef := hJ.val 10 (by decide) (hL 10 (by decide))
      have e19 : s 19 = undef := hJ.val 11 (by decide) (hL 11 (by decide))
      have e20 : s 20 = undef := hJ.val 12 (by decide) (hL 12 (by decide))
      have e21 : s 21 = undef := hJ.val 13 (by decide) (hL 13 (by decide))
      have e22 : s 22 = undef := hJ.val 14 (by decide) (hL 14 (by decide))
      have e23 : s 23 = undef := hJ.val 15 (by decide) (hL 15 (by decide))
      have e24 : s 24 = undef := hJ.val 16 (by decide) (hL 16 (by decide))
      have e25 : s 25 = undef := hJ.val 17 (by decide) (hL 17 (by decide))
      have e26 : s 26 = .bool true := hJ.val 18 (by decide) (hL 18 (by decide))
      simp only [actOf, List.foldl_cons, List.foldl_nil, Act.put, List.setIfInBounds_toArray, List.set_cons_succ, List.set_cons_zero]
      simp only [e8, e9, e10, e11, e12, e13, e14, e15, e16, e17, e18, e19, e20, e21, e22, e23, e24, e25, e26]
      have HB1 := Lib.hid (HB.out.trans (hJ.below.mono HB.out.size))
      clear hJ hL
      go_wp2_with fail
      go_ret
      exact ⟨rfl, HB1.out⟩
end Go.Proofs.YteiemboopkbdpaaDoor.Mk
end

section
namespace Go.Proofs.YteiemboopkbdpaaDoor.Sn
open Go.RowKit Rw Mk
set_option linter.unusedVariables false
set_option linter.unusedSimpArgs false
def litN (c : Array Value) : List Nat := c.toList.map fun v => match v with | .int _ n => n.toNat | _ => 0
def Gives8 (w : World) (e : Ending) (w' : World) : Prop := ∃ g L, e = .returned (.slice (some ⟨g, 0, none⟩) 8 8) ∧ Words .u64 w' (some ⟨g, 0, none⟩) L ∧ L.length = 8 ∧ AllLt 18446744073709551616 L ∧ w.heap.size ≤ g ∧ Below w.heap.size w w'
theorem gives8 (w : World) (c : Array Value) (h : c = (cellsOf .u64 (litN c)).toArray) (h8 : (litN c).length = 8) (hl : (litN c).all (fun x => decide (x < 18446744073709551616)) = true) :
    Gives8 w (.returned (.slice (some ⟨w.heap.size, 0, none⟩) 8 8)) (w.alloc (.cells c 22)) :=
  ⟨_, litN c, rfl, words_new w _ .u64 _ h, h8, fun x hx => by simpa using List.all_eq_true.1 hl x hx, Nat.le_refl _, (Below.refl _ w).alloc (Nat.le_refl _) _⟩
set_option maxRecDepth 20000 in
theorem refFirst8 (b : Int) (hb : b = 224 ∨ b = 256 ∨ b = 384 ∨ b = 512) (w : World) : Calls Tryd.prog 78 #[.int .i64 b] w (Gives8 w) := by
  rcases hb with rfl | rfl | rfl | rfl
  all_goals
    go_enter Tryd.func78, Tryd.ntmps78
    go_wp2
    go_ret
    exact gives8 w _ rfl rfl (by decide)
set_option maxRecDepth 20000 in
theorem refTrunc8 (b : Int) (hb : b = 224 ∨ b = 256 ∨ b = 0) (w : World) : Calls Tryd.prog 79 #[.int .i64 b] w (Gives8 w) := by
  rcases hb with rfl | rfl | rfl
  all_goals
    go_enter Tryd.func79, Tryd.ntmps79
    go_wp2
    go_ret
    exact gives8 w _ rfl rfl (by decide)
set_option maxRecDepth 20000 in
theorem refValue8 (a : Nat) (h1 : 1 ≤ a) (h6 : a ≤ 6) (w : World) : Calls Tryd.prog 60 #[.int .i64 (a : Nat)] w (Gives8 w) := by
  have HF := Lib.hid (fun b hb W => refFirst8 b hb W)
  have HT := Lib.hid (fun b hb W => refTrunc8 b hb W)
  obtain rfl | rfl | rfl | rfl | rfl | rfl : a = 1 ∨ a = 2 ∨ a = 3 ∨ a = 4 ∨ a = 5 ∨ a = 6 := by omega
  all_goals
    clear h1 h6
    go_enter Tryd.func60, Tryd.ntmps60
    go_wp2_with (first
      | (go_at_call 78; refine (HF.out _ (by decide) _).mono ?_; rintro e u1 ⟨g, L, rfl, k1, k2, k3, k4⟩; have K := Lib.hid (And.intro k1 (And.intro k2 (And.intro k3 k4))); clear k1 k2 k3 k4)
      | (go_at_call 79; refine (HT.out _ (by decide) _).mono ?_; rintro e u1 ⟨g, L, rfl, k1, k2, k3, k4⟩; have K := Lib.hid (And.intro k1 (And.intro k2 (And.intro k3 k4))); clear k1 k2 k3 k4))
    go_ret
    exact ⟨g, L, rfl, K.out.1, K.out.2.1, K.out.2.2.1, K.out.2.2.2⟩
end Go.Proofs.YteiemboopkbdpaaDoor.Sn
end

section
namespace Go.Proofs.YteiemboopkbdpaaDoor
open Go.RowKit
set_option linter.unusedVariables false
def bufF (n : Nat) : Nat := match n with
  | 180 => 47
  | 181 => 80
  | 184 => 81
  | 251 => 64
  | 252 => 65
  | 290 => 82
  | 324 => 90
  | n => n
def bufT (n : Nat) : Nat := match n with
  | 0 => 0
  | 3 => 3
  | 4 => 4
  | 5 => 5
  | 9 => 9
  | 20 => 20
  | 37 => 26
  | 75 => 81
  | 80 => 129
  | 91 => 52
  | 93 => 54
  | 130 => 86
  | 131 => 96
  | n => n
def bufG (n : Nat) : Nat := match n with
  | 14 => 0
  | n => n
def bufRen : Go.Shelf.Ren := { f := bufF, t := bufT, g := bufG }
set_option maxRecDepth 20000 in
theorem bufLays : LaysM.n180 Tryd.prog bufRen := by
  constructor
  · constructor
    all_goals first
      | kernel_rfl
      | (intro w; kernel_rfl)
  all_goals first
    | kernel_rfl
    | (intro w; kernel_rfl)
set_option maxRecDepth 100000 in
set_option maxHeartbeats 1600000 in
theorem buf_write0 (T : TypeId) (R : Nat → Option Value) (B b : Nat) (bs : List Value) (A : Option Addr) (c : Nat) (w : World) (h : LibA.IsBuffer T R 5 B b 0 bs w) :
    Calls Tryd.prog 47 #[.pointer (some ⟨b, 0, none⟩), .slice A 0 c] w fun e w' => e = .returned (.tuple #[.int .i64 0, .nilIface]) ∧ LibA.IsBuffer T R 5 B b 0 bs w' ∧ Below B w w' ∧ Lib.OthersKept 5 (some b) w w' := by
  obtain ⟨hB, v0, lr, hbk, -, -⟩ := id h
  have c2 : w.cell? ⟨b, 2, none⟩ = some (.int .i8 lr) := hbk.c2
  have f2 : w.frozen? ⟨b, 2, none⟩ = false := hbk.f 2
  have h' : LibA.IsBuffer T R 5 B b 0 bs (w.setCell ⟨b, 2, none⟩ (.int .i8 0)) := h.setLast 0
  have hbel0 : Below B w (w.setCell ⟨b, 2, none⟩ (.int .i8 0)) := (Below.refl B w).setCell (p := ⟨b, 2, none⟩) hB _
  have hk0 : Lib.OthersKept 5 (some b) w (w.setCell ⟨b, 2, none⟩ (.int .i8 0)) := (Lib.OthersKept.refl _ _ w).setCell ⟨b, 2, none⟩ rfl _
  clear hbk v0
  have hinfo : (Tryd.prog.info? 5).map (·.size) = some 1 := by kernel_rfl
  have hce : ∀ d dLen dCap W, (Builtin.copy_ #[26, 26] 3 #[.slice d dLen dCap, .slice A 0 c]).run Tryd.prog W = .ok (goInt 0) W := fun d dLen dCap W => run_copy_none W 26 26 3 5 d A dLen dCap 0 c Tryd.underlying26 hinfo (by simp)
  have hT : ∀ W, LibA.IsBuffer T R 5 B b 0 bs W → Calls Tryd.prog 64 #[.pointer (some ⟨b, 0, none⟩), .int .i64 0] W _ := fun W hW => Any.Buffer_tryGrow_at { bufLays with } T R B b 0 0 bs W hW
  go_enter Tryd.func47, Tryd.ntmps47
  go_wp2_with (go_at_call 64; refine (hT _ h').mono ?_)
  rintro e W1 (⟨rfl, xs, hxl, hI, hbel, hk, hg⟩ | ⟨rfl, rfl, hnr⟩)
  · clear h' c2 f2 hT
    have hx0 : xs = [] := List.eq_nil_of_length_eq_zero hxl
    subst hx0
    rw [List.append_nil] at hI
    obtain ⟨-, lr2, hc⟩ := hI.cases
    rcases hc with ⟨hb0, hbk2⟩ | ⟨g, cap, cur, hbk2, -, -, hnc, hcm, -, -, -⟩
    · subst hb0
      have d0 : W1.cell? ⟨b, 0, none⟩ = some (.slice none 0 0) := hbk2.c0
      go_wp2
      all_goals (go_ret2; first | exact ⟨rfl, hI, hbel0.trans hbel, hk0.trans hk⟩ | exact ⟨by simp, by simpa using hI, hbel0.trans hbel, hk0.trans hk⟩)
    · have d0 : W1.cell? ⟨b, 0, none⟩ = some (.slice (some ⟨g, 0, none⟩) bs.length cap) := hbk2.c0
      unfold maxLen at hcm
      go_wp2
      all_goals (go_ret2; first | exact ⟨rfl, hI, hbel0.trans hbel, hk0.trans hk⟩ | exact ⟨by simp, by simpa using hI, hbel0.trans hbel, hk0.trans hk⟩)
  · obtain ⟨_, _, _, _, hlt⟩ := hnr
    omega
theorem buf_write (T : TypeId) (R : Nat → Option Value) (B b : Nat) (xs ys : List Nat) (A : Option Addr) (c : Nat) (w : World) (h : LibA.IsBuffer T R 5 B b 0 (cellsOf .u8 xs) w) (hBw : B ≤ w.heap.size)
    (hA : ys ≠ [] → ∀ a, A = some a → a.block ≠ b) (hw : Words .u8 w A ys) (hlim : xs.length + ys.length ≤ 140737488355328) :
    Calls Tryd.prog 47 #[.pointer (some ⟨b, 0, none⟩), .slice A ys.length c] w fun e w' => e = .returned (.tuple #[.int .i64 ys.length, .nilIface]) ∧ LibA.IsBuffer T R 5 B b 0 (cellsOf .u8 (xs ++ ys)) w' ∧ Below B w w' ∧ Lib.OthersKept 5 (some b) w w' := by
  rcases ys.eq_nil_or_concat with rfl | ⟨zs, z, hz⟩
  · rw [List.append_nil]
    exact buf_write0 T R B b _ A c w h
  · have hpos : 0 < ys.length := by rw [hz]; simp
    obtain ⟨g, o, rfl, -, -⟩ := hw.block hpos
    rw [cellsOf_append]
    exact Any.Buffer_Write_at bufLays T R B b 0 (cellsOf .u8 xs) (cellsOf .u8 ys) ⟨g, o, none⟩ ys.length c w h hBw (cellsOf_oneCell _ _) (cellsOf_length _ _) (hA (fun e => by rw [e] at hpos; exact absurd hpos (by decide)) _ rfl)
      (fun j v hj => by
        have hj' : j < ys.length := by
          have := (List.getElem?_eq_some_iff.1 hj).1
          rwa [cellsOf_length] at this
        rw [cellsOf_at _ _ _ hj'] at hj
        obtain ⟨g2, o2, e2, hc⟩ := hw j hj'
        cases e2
        rw [Lib.addr_add, hc]
        exact hj)
      (cellsOf_oneCell _ _) (by rw [cellsOf_length]; exact hlim)
theorem buf_bytes (T : TypeId) (B b : Nat) (xs : List Nat) (w : World) (h : LibA.IsBuffer T (fun _ => none) 5 B b 0 (cellsOf .u8 xs) w) :
    Calls Tryd.prog 25 #[.pointer (some ⟨b, 0, none⟩)] w fun e w' => ∃ v, e = .returned v ∧ Row .u8 5 B w' v xs ∧ ∃ n, w' = w.drewN n := by
  have hmx : Tryd.prog.follows .mixedOrders = true := by kernel_rfl
  obtain ⟨hB, lr, hc⟩ := h.cases
  rcases hc with ⟨hnil, hbk⟩ | ⟨g, cap, cur, hbk, hBg, hg, hnc, hcm, hcs, htk, hgb⟩
  · have hn : xs = [] := List.eq_nil_of_length_eq_zero (by have := congrArg List.length hnil; rwa [cellsOf_length] at this)
    subst hn
    have c0 : w.cell? ⟨b, 0, none⟩ = some (.slice none 0 0) := hbk.c0
    have c1 : w.cell? ⟨b, 1, none⟩ = some (.int .i64 0) := hbk.c1
    go_enter Tryd.func25, Tryd.ntmps25
    go_wp2
    go_region_o
    all_goals (go_wp2; go_ret; exact ⟨_, rfl, Row.nil _ _ _ _, 1, rfl⟩)
  · rw [cellsOf_length] at hbk hnc htk
    have c0 : w.cell? ⟨b, 0, none⟩ = some (.slice (some ⟨g, 0, none⟩) xs.length cap) := hbk.c0
    have c1 : w.cell? ⟨b, 1, none⟩ = some (.int .i64 0) := hbk.c1
    have hcm' := hcm
    unfold maxLen at hcm'
    go_enter Tryd.func25, Tryd.ntmps25
    go_wp2
    go_region_o
    all_goals (go_wp2; go_ret; exact ⟨_, rfl, ⟨by rw [cellsOf_length, Nat.mul_one], .inr ⟨g, cap, cur, rfl, hBg, hg, hnc, hcm, by simpa using hcs, by simpa using htk⟩⟩, 1, rfl⟩)
end Go.Proofs.YteiemboopkbdpaaDoor
end

section
namespace Go.Proofs.YteiemboopkbdpaaDoor
open Go.RowKit
set_option linter.unusedVariables false

theorem or_step32 (z y : Nat) (hy : y < 256) : bits .or .u32 (((z % 4294967296 : Nat) : Int) * 256 % 4294967296) (y : Int) = (((z * 256 + y) % 4294967296 : Nat) : Int) := by
  have e : ((z % 4294967296 : Nat) : Int) * 256 % 4294967296 = (((z % 4294967296) * 256 % 4294967296 : Nat) : Int) := by omega
  rw [e, u32_or_nat _ _ (Nat.mod_lt _ (by omega)) (by omega)]
  have h := shl_or z y 32 hy (by omega)
  rw [show (2 : Nat) ^ 32 = 4294967296 from rfl] at h
  rw [Nat.mod_mul_mod, h]
theorem or_step64 (z y : Nat) (hy : y < 256) : bits .or .u64 (((z % 18446744073709551616 : Nat) : Int) * 256 % 18446744073709551616) (y : Int) = (((z * 256 + y) % 18446744073709551616 : Nat) : Int) := by
  have e : ((z % 18446744073709551616 : Nat) : Int) * 256 % 18446744073709551616 = (((z % 18446744073709551616) * 256 % 18446744073709551616 : Nat) : Int) := by omega
  rw [e, u64_or_nat _ _ (Nat.mod_lt _ (by omega)) (by omega)]
  have h := shl_or z y 64 hy (by omega)
  rw [show (2 : Nat) ^ 64 = 18446744073709551616 from rfl] at h
  rw [Nat.mod_mul_mod, h]
set_option maxRecDepth 100000 in
set_option maxHeartbeats 400000 in
theorem len64_32 (w : World) : Calls Tryd.prog 93 #[.int .u64 4294967295] w fun e w' => e = .returned (.int .i64 32) ∧ w = w' := by
  go_enter Tryd.func93, Tryd.ntmps93
  go_wp2
  go_ret
  exact ⟨by kernel_rfl, rfl⟩
set_option maxHeartbeats 400000 in
theorem size32_any (w : World) : Calls Tryd.prog 91 #[] w fun e w' => e = .returned (.int .i64 4) ∧ w = w' := by
  go_enter Tryd.func91, Tryd.ntmps91
  go_wp2_with (go_at_call 93; refine (len64_32 _).mono ?_; rintro e w' ⟨rfl, rfl⟩)
  go_ret
  exact ⟨rfl, rfl⟩
set_option maxRecDepth 100000 in
set_option maxHeartbeats 400000 in
theorem len64_64 (w : World) : Calls Tryd.prog 93 #[.int .u64 18446744073709551615] w fun e w' => e = .returned (.int .i64 64) ∧ w = w' := by
  go_enter Tryd.func93, Tryd.ntmps93
  go_wp2
  go_ret
  exact ⟨by kernel_rfl, rfl⟩
set_option maxHeartbeats 400000 in
theorem size64_any (w : World) : Calls Tryd.prog 86 #[] w fun e w' => e = .returned (.int .i64 8) ∧ w = w' := by
  go_enter Tryd.func86, Tryd.ntmps86
  go_wp2_with (go_at_call 93; refine (len64_64 _).mono ?_; rintro e w' ⟨rfl, rfl⟩)
  go_ret
  exact ⟨rfl, rfl⟩
end Go.Proofs.YteiemboopkbdpaaDoor
end

section
namespace Go.Proofs.YteiemboopkbdpaaDoor
open Go.RowKit
set_option linter.unusedVariables false

theorem u8_info1 : (Tryd.prog.info? 5).map (fun i => (i.zero, i.size, i.bytes)) = some (some (.int .u8 0), 1, 1) := by kernel_rfl
theorem byte_of (x j : Nat) : ((x / 256 ^ j % 256 : Nat) : Int) = (x : Int) / 2 ^ (8 * j) % 256 := by
  have e : (256 : Nat) ^ j = 2 ^ (8 * j) := by rw [Nat.pow_mul]
  rw [e]; simp
set_option maxHeartbeats 2000000 in
theorem put32_any (A : Option Addr) (c : Nat) (xs : List Nat) (hx : AllLt 4294967296 xs) (hb : xs.length * 4 ≤ 140737488351232) (w : World) (hw : Words .u32 w A xs) :
    Calls Tryd.prog 84 #[.slice A xs.length c] w (Gives .u8 5 (putBig 4 xs) w) := by
  obtain ⟨i0, hi0, hz0, hz1, hz2⟩ := info_parts u8_info1
  have hmk := make_at (P := Tryd.prog) w (t := 26) Tryd.underlying26 hi0 hz0 hz1 0 ((xs.length : Int) * 4) 0 (xs.length * 4) rfl (by omega) (Nat.zero_le _) (by rw [hz2]; omega) (by unfold maxLen; omega)
  have r0 := Row.made0 .u8 5 w.heap.size w (xs.length * 4) (Nat.le_refl _) (by unfold maxLen; omega)
  have R0 := Lib.hid r0
  clear r0
  go_enter Tryd.func84, Tryd.ntmps84
  go_wp2_with (go_at_call 91; refine (size32_any _).mono ?_; rintro e w' ⟨rfl, rfl⟩)
  go_loopw [4, 6, 7, 16] (fun b x at_ i wr => ∃ k : Nat, k ≤ xs.length ∧ i = .int .i64 k ∧ Row .u8 5 w.heap.size wr b (putBig 4 (xs.take k)) ∧ Below w.heap.size w wr) (fun _ _ _ i _ => xs.length - (intOf i).toNat)
  case atStart => exact ⟨0, Nat.zero_le _, rfl, R0.out, (Below.refl _ _).alloc (Nat.le_refl _) _⟩
  case round =>
    obtain ⟨k, hk, rfl, hrow, hB⟩ := hrel
    have HR := Lib.hid hrow
    clear hrow
    by_cases hlt : k < xs.length
    · obtain ⟨g, o, rfl, hgl, hc⟩ := hw.block hlt
      replace hc := (hB.cell (p := ⟨g, o + k, none⟩) hgl).trans hc
      have hg := hx.at hlt
      have HP : Hid (putBig 4 (xs.take (k + 1)) = putBig 4 (xs.take k) ++ beB 4 (xs.getD k 0)) := by unfold Hid putBig; rw [take_snocD xs k hlt, flat_snoc]
      have HL : Hid ((putBig 4 (xs.take k)).length = k * 4) := by unfold Hid; rw [putBig_length, List.length_take, Nat.min_eq_left hk]
      have hk4 : k * 4 + 4 ≤ xs.length * 4 := by omega
      generalize putBig 4 (xs.take k) = ys at *
      generalize xs.getD k 0 = x at *
      clear hx hw
      go_wp2
      go_loopw [4, 7] (fun b at_ wr => ∃ j : Nat, j ≤ 4 ∧ at_ = .int .i64 ((j : Int) - 1) ∧ Row .u8 5 w.heap.size wr b (ys ++ (beB 4 x).take (4 - j)) ∧ Below w.heap.size w wr) (fun _ at_ _ => (intOf at_ + 1).toNat)
      case atStart => exact ⟨4, Nat.le_refl _, rfl, by rw [Nat.sub_self, List.take_zero, List.append_nil]; exact HR.out, hB⟩
      case round =>
        obtain ⟨j, hj, rfl, hrow2, hB2⟩ := hrel
        have HR2 := Lib.hid hrow2
        clear hrow2
        rcases j with _ | j
        · go_wp2
          go_roundw
          case rel => exact ⟨k + 1, by omega, by go_num, by rw [HP.out]; have h := HR2.out; rwa [List.take_of_length_le (by rw [beB_length]; omega)] at h, hB2⟩
          case measure => simp [intOf]; omega
        · have HT : Hid (ys ++ (beB 4 x).take (4 - j) = ys ++ (beB 4 x).take (4 - (j + 1)) ++ [x / 256 ^ j % 256]) := by
            unfold Hid
            rw [show 4 - j = (4 - (j + 1)) + 1 by omega, take_snocD _ _ (by rw [beB_length]; omega), beB_getD _ _ _ (by omega), show 4 - 1 - (4 - (j + 1)) = j by omega, List.append_assoc]
          have hzl : (ys ++ (beB 4 x).take (4 - (j + 1))).length + 1 ≤ xs.length * 4 := by
            rw [List.length_append, List.length_take, beB_length, HL.out]; omega
          generalize ys ++ (beB 4 x).take (4 - (j + 1)) = zs at *
          have hsz := hB2.size
          go_wp2_with (at_builtin; refine wpList_append_own _ rfl _ _ 26 rfl w.heap.size 5 i0 (.int .u8 0) 1 1 Tryd.underlying26 hi0 hz0 hz1 hz2 rfl (by decide) _ _ _ rfl (World.ownsRow.alloc HR2.out _) ⟨wr.heap.size, 0, none⟩ 1 1 [.int .u8 ((x : Int) / 2 ^ (8 * j) % 256)] rfl rfl (one_at _ _ _) (fun u hu => by simp at hu; subst hu; rfl) (by unfold maxLen; omega) (by omega) (by simp; omega) ?_; intro v' w1 hown' hgrow _; have hB3 := Row.grown HR2.out hB2 hsz hgrow; have HR3 := Lib.hid (Row.snoc (byte_of x j).symm hown'); clear hown' hgrow)
          go_roundw
          case rel => exact ⟨j, by omega, by go_num, by rw [HT.out]; exact HR3.out, hB3⟩
          case measure => simp [intOf]
    · obtain rfl : k = xs.length := by omega
      rw [List.take_length] at HR
      go_wp2
      go_ret
      exact Gives.mk HR.out hB
set_option maxHeartbeats 2000000 in
theorem put64_any (A : Option Addr) (c : Nat) (xs : List Nat) (hx : AllLt 18446744073709551616 xs) (hb : xs.length * 8 ≤ 140737488351232) (w : World) (hw : Words .u64 w A xs) :
    Calls Tryd.prog 83 #[.slice A xs.length c] w (Gives .u8 5 (putBig 8 xs) w) := by
  obtain ⟨i0, hi0, hz0, hz1, hz2⟩ := info_parts u8_info1
  have hmk := make_at (P := Tryd.prog) w (t := 26) Tryd.underlying26 hi0 hz0 hz1 0 ((xs.length : Int) * 8) 0 (xs.length * 8) rfl (by omega) (Nat.zero_le _) (by rw [hz2]; omega) (by unfold maxLen; omega)
  have r0 := Row.made0 .u8 5 w.heap.size w (xs.length * 8) (Nat.le_refl _) (by unfold maxLen; omega)
  have R0 := Lib.hid r0
  clear r0
  go_enter Tryd.func83, Tryd.ntmps83
  go_wp2_with (go_at_call 86; refine (size64_any _).mono ?_; rintro e w' ⟨rfl, rfl⟩)
  go_loopw [4, 6, 7, 16] (fun b x at_ i wr => ∃ k : Nat, k ≤ xs.length ∧ i = .int .i64 k ∧ Row .u8 5 w.heap.size wr b (putBig 8 (xs.take k)) ∧ Below w.heap.size w wr) (fun _ _ _ i _ => xs.length - (intOf i).toNat)
  case atStart => exact ⟨0, Nat.zero_le _, rfl, R0.out, (Below.refl _ _).alloc (Nat.le_refl _) _⟩
  case round =>
    obtain ⟨k, hk, rfl, hrow, hB⟩ := hrel
    have HR := Lib.hid hrow
    clear hrow
    by_cases hlt : k < xs.length
    · obtain ⟨g, o, rfl, hgl, hc⟩ := hw.block hlt
      replace hc := (hB.cell (p := ⟨g, o + k, none⟩) hgl).trans hc
      have hg := hx.at hlt
      have HP : Hid (putBig 8 (xs.take (k + 1)) = putBig 8 (xs.take k) ++ beB 8 (xs.getD k 0)) := by unfold Hid putBig; rw [take_snocD xs k hlt, flat_snoc]
      have HL : Hid ((putBig 8 (xs.take k)).length = k * 8) := by unfold Hid; rw [putBig_length, List.length_take, Nat.min_eq_left hk]
      have hk4 : k * 8 + 8 ≤ xs.length * 8 := by omega
      generalize putBig 8 (xs.take k) = ys at *
      generalize xs.getD k 0 = x at *
      clear hx hw
      go_wp2
      go_loopw [4, 7] (fun b at_ wr => ∃ j : Nat, j ≤ 8 ∧ at_ = .int .i64 ((j : Int) - 1) ∧ Row .u8 5 w.heap.size wr b (ys ++ (beB 8 x).take (8 - j)) ∧ Below w.heap.size w wr) (fun _ at_ _ => (intOf at_ + 1).toNat)
      case atStart => exact ⟨8, Nat.le_refl _, rfl, by rw [Nat.sub_self, List.take_zero, List.append_nil]; exact HR.out, hB⟩
      case round =>
        obtain ⟨j, hj, rfl, hrow2, hB2⟩ := hrel
        have HR2 := Lib.hid hrow2
        clear hrow2
        rcases j with _ | j
        · go_wp2
          go_roundw
          case rel => exact ⟨k + 1, by omega, by go_num, by rw [HP.out]; have h := HR2.out; rwa [List.take_of_length_le (by rw [beB_length]; omega)] at h, hB2⟩
          case measure => simp [intOf]; omega
        · have HT : Hid (ys ++ (beB 8 x).take (8 - j) = ys ++ (beB 8 x).take (8 - (j + 1)) ++ [x / 256 ^ j % 256]) := by
            unfold Hid
            rw [show 8 - j = (8 - (j + 1)) + 1 by omega, take_snocD _ _ (by rw [beB_length]; omega), beB_getD _ _ _ (by omega), show 8 - 1 - (8 - (j + 1)) = j by omega, List.append_assoc]
          have hzl : (ys ++ (beB 8 x).take (8 - (j + 1))).length + 1 ≤ xs.length * 8 := by
            rw [List.length_append, List.length_take, beB_length, HL.out]; omega
          generalize ys ++ (beB 8 x).take (8 - (j + 1)) = zs at *
          have hsz := hB2.size
          go_wp2_with (at_builtin; refine wpList_append_own _ rfl _ _ 26 rfl w.heap.size 5 i0 (.int .u8 0) 1 1 Tryd.underlying26 hi0 hz0 hz1 hz2 rfl (by decide) _ _ _ rfl (World.ownsRow.alloc HR2.out _) ⟨wr.heap.size, 0, none⟩ 1 1 [.int .u8 ((x : Int) / 2 ^ (8 * j) % 256)] rfl rfl (one_at _ _ _) (fun u hu => by simp at hu; subst hu; rfl) (by unfold maxLen; omega) (by omega) (by simp; omega) ?_; intro v' w1 hown' hgrow _; have hB3 := Row.grown HR2.out hB2 hsz hgrow; have HR3 := Lib.hid (Row.snoc (byte_of x j).symm hown'); clear hown' hgrow)
          go_roundw
          case rel => exact ⟨j, by omega, by go_num, by rw [HT.out]; exact HR3.out, hB3⟩
          case measure => simp [intOf]
    · obtain rfl : k = xs.length := by omega
      rw [List.take_length] at HR
      go_wp2
      go_ret
      exact Gives.mk HR.out hB
end Go.Proofs.YteiemboopkbdpaaDoor
end

section
namespace Go.Proofs.YteiemboopkbdpaaDoor
open Go.RowKit Go.Shelf
set_option linter.unusedVariables false
attribute [local go_sem] Oper.semAt_some

structure Keep (n₀ : Nat) (bs : List Nat) (W W' : World) : Prop where
  below : Below n₀ W W'
  same : ∀ b ∈ bs, W'.heap[b]? = W.heap[b]?
theorem Keep.refl (n₀ : Nat) (bs : List Nat) (W : World) : Keep n₀ bs W W := ⟨Below.refl _ _, fun _ _ => rfl⟩
theorem Keep.trans {n₀ : Nat} {bs : List Nat} {X Y Z : World} (h : Keep n₀ bs X Y) (k : Keep n₀ bs Y Z) : Keep n₀ bs X Z := ⟨h.below.trans k.below, fun b hb => (k.same b hb).trans (h.same b hb)⟩
theorem Keep.of_below {n₀ B : Nat} {bs : List Nat} {W W' : World} (h : Below B W W') (hn : n₀ ≤ B) (hb : ∀ b ∈ bs, b < B) : Keep n₀ bs W W' := ⟨h.mono hn, fun b hm => h.block b (hb b hm)⟩
theorem Keep.cell {n₀ : Nat} {bs : List Nat} {W W' : World} (h : Keep n₀ bs W W') {b : Nat} (hb : b ∈ bs) (o : Nat) : W'.cell? ⟨b, o, none⟩ = W.cell? ⟨b, o, none⟩ := by
  unfold World.cell?; rw [h.same b hb]
theorem Keep.setCell (n₀ : Nat) (bs : List Nat) (W : World) (p : Nat) (o : Nat) (v : Value) (h : n₀ ≤ p) (hb : ∀ b ∈ bs, b ≠ p) : Keep n₀ bs W (W.setCell ⟨p, o, none⟩ v) :=
  ⟨(Below.refl _ _).setCell (p := ⟨p, o, none⟩) h _, fun b hm => Below.heap_setCell W ⟨p, o, none⟩ v b (hb b hm)⟩
theorem keep_b {n₀ : Nat} {bs : List Nat} {w : World} (hn : n₀ ≤ w.heap.size) (hb : ∀ b ∈ bs, b < w.heap.size) (W : World) (l : Nat) (o o' : Obj) (hl : w.heap.size ≤ l) (h : W.heap[l]? = some o) (c1 : o.isCells = false) (c2 : o.isWalk = false) : Keep n₀ bs W (W.putObj l o') :=
  ⟨belowK_b hn W l o o' hl h c1 c2, fun b hm => World.putObj_heap_other (by have := hb b hm; omega)⟩

theorem grownBy_drewN (W : World) (m : Nat) : W.grownBy (W.drewN m) none := ⟨rfl, rfl, rfl, Nat.le_refl _, fun _ _ _ => rfl⟩
theorem keep_drewN (n₀ : Nat) (bs : List Nat) (W : World) (m : Nat) : Keep n₀ bs W (W.drewN m) := ⟨(Below.refl n₀ W).drewN m, fun _ _ => rfl⟩

def piece (A : Option Addr) (off m : Nat) : Value := match A with
  | some a => .slice (some ⟨a.block, a.off + off, none⟩) m m
  | none => .slice none 0 0
theorem piece_some (b o off m : Nat) : piece (some ⟨b, o, none⟩) off m = .slice (some ⟨b, o + off, none⟩) m m := rfl
theorem words_piece {k : IntKind} {w : World} {b o : Nat} {xs : List Nat} (h : Words k w (some ⟨b, o, none⟩) xs) (j m : Nat) (hm : j < xs.length / m) : Words k w (some ⟨b, o + j * m, none⟩) (chunk m xs j) := fun i hi => by
  rw [chunk_length m xs j hm] at hi
  have h1 : (j + 1) * m ≤ xs.length := Nat.le_trans (Nat.mul_le_mul_right m hm) (Nat.div_mul_le_self _ _)
  rw [Nat.add_mul] at h1
  obtain ⟨b', o', e, hc⟩ := h (j * m + i) (by omega)
  cases e
  exact ⟨b, o + j * m, rfl, by rw [Nat.add_assoc, hc, chunk_getD _ _ _ _ hi]⟩

set_option maxRecDepth 100000 in
set_option maxHeartbeats 2000000 in
theorem chunk1_in (n : Nat) (hn : 1 ≤ n) (l Bs Bn n₀ : Nat) (A : Option Addr) (c q m len : Nat) (hm : 0 < m) (hlen : len = q * m) (hlc : len ≤ c) (hc : c ≤ maxLen) (hA : 0 < q → ∃ b o, A = some ⟨b, o, none⟩)
    (J Jx : List Nat → World → Prop) (W : World) (hJ : AbidesFrom W.heap.size J)
    (hY : ∀ pre x W, J pre W → pre.length < q → YieldAt Fence.wide (n - 1) Tryd.prog l #[piece A (min x (q - 1) * m) m] W fun e W' =>
      (e = .returned (.bool true) ∧ J (pre ++ [x]) W' ∧ Keep n₀ [Bs, Bn] W W') ∨ (e = .returned (.bool false) ∧ Jx (pre ++ [x]) W'))
    (hBs : W.cell? ⟨Bs, 0, none⟩ = some (.slice A len c)) (hBn : W.cell? ⟨Bn, 0, none⟩ = some (.int .i64 (m : Int))) (h0 : J [] W) :
    CallsIn Fence.wide n Tryd.prog 92 #[.func (.yield l) #[] #[], .pointer (some ⟨Bs, 0, none⟩), .pointer (some ⟨Bn, 0, none⟩)] W fun e W' => (∃ v, e = .returned v) ∧
      ((∃ ys, ys = List.range q ∧ J ys W') ∨ (∃ pre, (∃ k, k ≤ q ∧ pre = List.range k) ∧ Jx pre W')) := by
  subst hlen
  unfold maxLen at hc
  have hmx : Tryd.prog.follows .mixedOrders = true := by kernel_rfl
  refine callsIn_of_wp Tryd.func92 rfl trivial ?_ rfl
  simp only [Tryd.ntmps92, List.size_toArray, List.length_cons, List.length_nil, Nat.reduceAdd, Nat.reduceSub, Array.replicate_succ, Array.replicate_zero, List.push_toArray, List.append_toArray, List.nil_append, List.cons_append]
  gi_wp2
  gi_loopw [4] (fun i wr => ∃ k : Nat, k ≤ q ∧ i = .int .i64 ((k * m : Nat) : Int) ∧ J (List.range k) wr ∧ Keep n₀ [Bs, Bn] W wr)
    (fun i _ => q * m - (intOf i).toNat)
  case atStart => exact ⟨0, Nat.zero_le _, by rw [Nat.zero_mul]; rfl, h0, Keep.refl _ _ _⟩
  case round =>
    obtain ⟨k, hk, rfl, hJs, hnx⟩ := hrel
    have hs := (hnx.cell (b := Bs) (by simp) 0).trans hBs
    have hbn := (hnx.cell (b := Bn) (by simp) 0).trans hBn
    clear hBs hBn
    by_cases hlt : k < q
    · obtain ⟨b, o, rfl⟩ := hA (by omega)
      have hkm : k * m + m ≤ q * m := by have := Nat.mul_le_mul_right m hlt; rw [Nat.succ_mul] at this; exact this
      have HM := Lib.hid (Nat.succ_mul k m)
      have HD := fun a => Lib.hid (hJ _ _ _ none hJs (grownBy_drewN wr a) (fun _ e => by cases e))
      have HP := Lib.hid (show piece (some ⟨b, o, none⟩) (min k (q - 1) * m) m = .slice (some ⟨b, o + k * m, none⟩) m m by rw [Nat.min_eq_left (by omega)]; rfl)
      have hlt' : k * m < q * m := by omega
      generalize k * m = i at *
      generalize q * m = len at *
      gi_wp2
      gi_big_quiet_th_o (fail)
      obtain ⟨fn, tmps, assign, body, hy, hR⟩ := hY _ k _ (HD nq).out (by simpa using hlt)
      rw [HP.out] at hy
      gi_wp2
      refine hR.mono ?_
      rintro e W3 (⟨rfl, hJ3, hk3⟩ | ⟨rfl, hJx3⟩)
      · have hbn3 : W3.cell? ⟨Bn, 0, none⟩ = some (.int .i64 (m : Int)) := (hk3.cell (b := Bn) (by simp) 0).trans hbn
        gi_wp2
        go_roundw
        case rel => exact ⟨k + 1, by omega, by rw [HM.out]; rfl, by rw [List.range_succ]; exact hJ3, hnx.trans ((keep_drewN n₀ _ wr nq).trans hk3)⟩
        case measure => simp [intOf]; omega
      · gi_wp2
        refine bodyPost_ret (results_none rfl _ _ _) rfl ?_
        exact ⟨⟨_, rfl⟩, .inr ⟨_, ⟨k + 1, by omega, by rw [List.range_succ]⟩, hJx3⟩⟩
    · obtain rfl : k = q := by omega
      gi_wp2
      go_end0
      exact ⟨⟨_, rfl⟩, .inl ⟨_, rfl, hJs⟩⟩
set_option maxHeartbeats 400000 in
theorem chunk_any (A : Option Addr) (len c m : Nat) (hm : 0 < m) (hm2 : m ≤ 9223372036854775807) (w : World) :
    Calls Tryd.prog 85 #[.slice A len c, .int .i64 (m : Int)] w fun e w' =>
      e = .returned (.func (.func 92) #[] #[.pointer (some ⟨w.heap.size, 0, none⟩), .pointer (some ⟨w.heap.size + 1, 0, none⟩)]) ∧ w' = (w.alloc (.cells #[.slice A len c] 26)).alloc (.cells #[.int .i64 (m : Int)] 3) := by
  have hlt : ((m : Int) < 1) = False := by simp; omega
  go_enter Tryd.func85, Tryd.ntmps85
  go_wp2
  go_ret
  exact ⟨rfl, rfl⟩
theorem chunk_stops (n : Nat) (hn : 1 ≤ n) (Bs Bn n₀ : Nat) (A : Option Addr) (c q m len : Nat) (hm : 0 < m) (hlen : len = q * m) (hlc : len ≤ c) (hc : c ≤ maxLen) (hA : 0 < q → ∃ b o, A = some ⟨b, o, none⟩)
    (w : World) (hBs : w.cell? ⟨Bs, 0, none⟩ = some (.slice A len c)) (hBn : w.cell? ⟨Bn, 0, none⟩ = some (.int .i64 (m : Int))) :
    SeqStopsK Fence.wide n Tryd.prog 92 #[.pointer (some ⟨Bs, 0, none⟩), .pointer (some ⟨Bn, 0, none⟩)] (fun x : Nat => #[piece A (min x (q - 1) * m) m]) (Keep n₀ [Bs, Bn])
      (fun ys => ys = List.range q) (fun pre => ∃ k, k ≤ q ∧ pre = List.range k) q w := fun l J Jx W hW hJ _ hY h0 =>
  chunk1_in n hn l Bs Bn n₀ A c q m len hm hlen hlc hc hA J Jx W hJ hY ((hW.cell (p := ⟨Bs, 0, none⟩) (block_lt_of_cell hBs)).trans hBs) ((hW.cell (p := ⟨Bn, 0, none⟩) (block_lt_of_cell hBn)).trans hBn) h0
end Go.Proofs.YteiemboopkbdpaaDoor
end

section
namespace Go.Proofs.YteiemboopkbdpaaDoor
open Go.RowKit Go.Shelf
set_option linter.unusedVariables false
attribute [local go_sem] Oper.semAt_some

def appendK (ts : Array TypeId) (ty : TypeId) (vs : Array Value) : Sem Value := Builtin.append_ ts ty vs
theorem append_hide (ts : Array TypeId) (ty : TypeId) (vs : Array Value) : Builtin.append_ ts ty vs = appendK ts ty vs := rfl
attribute [local go_sem ↓] append_hide
theorem cellsW {w : World} {t : TypeId} {v : Value} : (w.alloc (.cells #[v] t)).cell? ⟨w.heap.size, 0, none⟩ = some v := (Boxed.new w t v).cell
def Col (k : IntKind) (t e ts ti : TypeId) (B : Nat) (sv nv : Value) (w1 : World) (ys : List Nat) (W : World) : Prop :=
  ((∃ v, Boxed W (B + 2) t v ∧ W.ownsRow (B + 1) e 1 v ys.length (cellsOf k ys) ∧ True) ∧ Boxed W (B + 3) ts sv ∧ Boxed W (B + 4) ti nv) ∧ Below (B + 1) w1 W
theorem col_own {β : Type} (f : β → List Nat) (k : IntKind) (t e ts ti : TypeId) (B B' : Nat) (sv nv : Value) (w1 : World) (hs : B + 1 ≤ w1.heap.size) (hB : B + 1 ≤ B') : OwnFrom B' (fun s W => Col k t e ts ti B sv nv w1 (f s) W) :=
  OwnFrom.and (OwnFrom.and (Own.from (holdsRow_own (B + 1) (B + 2) t e 1 (fun s => (f s).length) (fun s => cellsOf k (f s)) (fun _ _ => True)) _)
    (OwnFrom.and (Own.from (boxed_own (B + 3) ts (fun _ => sv)) _) (Own.from (boxed_own (B + 4) ti (fun _ => nv)) _))) (ownFrom_below hs hB)
theorem keepsOthers_below {W W' : World} (h : Below W.heap.size W W') : KeepsOthers W W' := ⟨h.size, fun k o hk _ => (h.block k (Array.getElem?_eq_some_iff.1 hk).1).trans hk⟩
theorem boxed_below {W W' : World} {B : Nat} {t : TypeId} {v : Value} (h : Boxed W B t v) (hb : Below W.heap.size W W') : Boxed W' B t v := (hb.block B h.lt).trans h
theorem below_of_drew {B : Nat} {W W' : World} (h : Below B W.drew W') : Below B W W' := ⟨h.os, h.tape, h.output, h.size, h.block⟩
theorem Col.step {k : IntKind} {t e ts ti : TypeId} {B B' : Nat} {sv nv : Value} {w1 W w2 w3 : World} {ys zs : List Nat} {v v' : Value} {tmp : Obj}
    (hte : t ≠ e) (hse : ts ≠ e) (hie : ti ≠ e) (hv : Boxed W (B + 2) t v) (hrow : W.ownsRow (B + 1) e 1 v ys.length (cellsOf k ys)) (hs : Boxed W (B + 3) ts sv) (hn : Boxed W (B + 4) ti nv) (hB : Below (B + 1) w1 W) (hB1 : B + 1 ≤ W.heap.size)
    (hb2 : Below W.heap.size W w2) (hown' : w3.ownsRow (B + 1) e 1 v' zs.length (cellsOf k zs)) (hgrow : (w2.alloc tmp).grownBy w3 v.ownBlock) :
    KeepsFrom B' W (w3.setCell ⟨B + 2, 0, none⟩ v') ∧ Keep B [B + 3, B + 4] W (w3.setCell ⟨B + 2, 0, none⟩ v') ∧ Col k t e ts ti B sv nv w1 zs (w3.setCell ⟨B + 2, 0, none⟩ v') := by
  have hv2 := boxed_below hv hb2
  have hs2 := boxed_below hs hb2
  have hn2 := boxed_below hn hb2
  have hrow2 : w2.ownsRow (B + 1) e 1 v ys.length (cellsOf k ys) := Row.below hrow hb2 (Nat.le_refl _)
  have hsz : B + 1 ≤ w2.heap.size := Nat.le_trans hB1 hb2.size
  obtain ⟨h1, h2, h3, h4, h5⟩ := hv2.appended hte hrow2 hsz (by omega) hown' hgrow
  have hs3 : Boxed w3 (B + 3) ts sv := (hs2.alloc tmp).kept hgrow (hs2.not_row hse hrow2)
  have hn3 : Boxed w3 (B + 4) ti nv := (hn2.alloc tmp).kept hgrow (hn2.not_row hie hrow2)
  have hs4 := hs3.other (by omega : B + 3 ≠ B + 2) v'
  have hn4 := hn3.other (by omega : B + 4 ≠ B + 2) v'
  have hB5 : Below (B + 1) W (w3.setCell ⟨B + 2, 0, none⟩ v') := (hb2.mono hB1).trans h5
  refine ⟨((keepsOthers_below hb2).trans h4).from _, ⟨hB5.mono (by omega), fun b hm => ?_⟩, ⟨⟨⟨v', h2, h3, trivial⟩, hs4, hn4⟩, hB.trans hB5⟩⟩
  simp only [List.mem_cons, List.not_mem_nil, or_false] at hm
  rcases hm with rfl | rfl
  · exact hs4.trans hs.symm
  · exact hn4.trans hn.symm
end Go.Proofs.YteiemboopkbdpaaDoor
end

section
namespace Go.Proofs.YteiemboopkbdpaaDoor
open Go.RowKit
set_option linter.unusedVariables false
abbrev encB : Nat → Value := fun x => Value.int .u8 (x : Nat)
open Go.Sort Go.Lib in
set_option maxHeartbeats 1600000 in
set_option maxRecDepth 1000000 in
theorem reverse_arr (blk off cap : Nat) (d : Array Nat) (w : World) (hH : Holds encB w blk off d) (hsz : d.size ≤ 9223372036854775807) :
    Calls Tryd.prog 87 #[.slice (some ⟨blk, off, none⟩) d.size cap] w fun e w' => e = .returned (.tuple #[]) ∧ ∃ n, w' = putRow encB (Sort.ahead w n) blk off d.reverse := by
  have hmx : Tryd.prog.follows .mixedOrders = true := by kernel_rfl
  go_enter Tryd.func87, Tryd.ntmps87
  go_wp2
  go_loopg [2, 3] d.size (fun k s2 s3 wr => ∃ (i jn : Nat) (jz : Int) (dk : Array Nat) (n : Nat), s2 = .int .i64 i ∧ s3 = .int .i64 jz ∧ ((i : Int) < jz → jz = jn ∧ jn < d.size) ∧ (¬ (i : Int) < jz → ¬ i < jn) ∧ jn - i ≤ k ∧
    dk.size = d.size ∧ wr = putRow encB (Sort.ahead w n) blk off dk ∧ reverseLoop i jn dk = reverseLoop 0 (d.size - 1) d)
  case atStart => exact ⟨0, d.size - 1, (d.size : Int) - 1, d, 0, rfl, rfl, fun h => ⟨by omega, by omega⟩, fun h => by omega, by omega, rfl, (putRow_self encB w blk off d hH).symm, rfl⟩
  case round =>
    obtain ⟨i, jn, jz, dk, n, rfl, rfl, h1, h2, hk, hds, hwr, heq⟩ := hrel
    by_cases hlt : (i : Int) < jz
    · obtain ⟨rfl, hjn⟩ := h1 hlt
      have hij : i < jn := by omega
      have hHk : Holds encB wr blk off dk := by rw [hwr]; exact holds_putRow encB _ blk off d dk (holds_ahead encB w n blk off d hH) hds
      obtain ⟨ci, fi⟩ := hHk i (by omega)
      obtain ⟨cj, fj⟩ := hHk jn (by omega)
      have A : Aside (wr = putRow encB (Sort.ahead w n) blk off dk) := hwr
      clear hwr hHk hH h1 h2
      go_wp2_with fail
      go_region_o
      go_wp2
      go_roundg (jn - 1 - (i + 1))
      case measure => omega
      case rel =>
        rw [reverseLoop, if_pos hij] at heq
        exact ⟨i + 1, jn - 1, (jn : Int) - 1, swp dk i jn, n + 1, by simp, rfl, fun h => ⟨by omega, by omega⟩, fun h => by omega, Nat.le_refl _, by rw [size_swp]; exact hds,
          swap_world encB (by omega) (by omega) A.out (by first | rfl | simp [encB, getElem!_pos, show jn < dk.size by omega]) (by first | rfl | simp [encB, getElem!_pos, show i < dk.size by omega]), heq⟩
    · have hnot := h2 hlt
      go_wp2
      go_end0
      refine ⟨rfl, n, ?_⟩
      rw [reverseLoop, if_neg hnot] at heq
      rw [← Lib.reverseLoop_reverse, ← heq]
end Go.Proofs.YteiemboopkbdpaaDoor
end
