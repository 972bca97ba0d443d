/- strconv.Itoa at this program: the kit's contract, its table of numbers written out. -/
import Derived.Test.YtechcmjmdepglaaDoorRows
import Derived.Test.YtechcmjmdepglaaDoorBytes
import Derived.Shelf.Strconv.Itoa3
import Derived.Lib.AppendIntMem
import Derived.Lib.ItoaLen
namespace Go.Proofs.YtechcmjmdepglaaDoor
open Go.RowKit
set_option linter.unusedVariables false
def itoaF (n : Nat) : Nat := match n with
  | 171 => 18
  | 243 => 31
  | 246 => 48
  | 283 => 67
  | 284 => 68
  | 285 => 69
  | 286 => 70
  | 129 => 73
  | 317 => 74
  | 318 => 75
  | 319 => 76
  | 320 => 77
  | 337 => 81
  | 338 => 82
  | n => n
def itoaT (n : Nat) : Nat := match n with
  | 3 => 3
  | 9 => 9
  | 2 => 2
  | 4 => 4
  | 171 => 80
  | 0 => 0
  | 53 => 23
  | 37 => 31
  | 5 => 5
  | 173 => 83
  | 212 => 93
  | 51 => 94
  | 20 => 20
  | 213 => 95
  | 46 => 71
  | 232 => 102
  | 233 => 103
  | n => n
def itoaG (n : Nat) : Nat := match n with
  | 17 => 4
  | 18 => 5
  | 19 => 6
  | n => n
def itoaRen : Go.Shelf.Ren := { f := itoaF, t := itoaT, g := itoaG }
set_option maxRecDepth 20000 in
theorem itoaLays : LaysM.n171 Tryd.prog itoaRen := by
  constructor
  · constructor
    all_goals first
      | kernel_rfl
      | (intro w; kernel_rfl)
  all_goals first
    | kernel_rfl
    | (intro w; kernel_rfl)
/-- The table of tens lies. -/
def TenTab (w : World) : Prop := ∃ T fr, w.heap[4]? = some (.cells (Lib.pow10Tab.map fun z => Value.int .u64 z).toArray T fr)
theorem TenTab.is {w : World} (h : TenTab w) : Lib.TabIs Tryd.prog w "internal/strconv.uint64pow10" .u64 Lib.pow10Tab := by
  obtain ⟨T, fr, h⟩ := h
  unfold Lib.TabIs World.var?
  rw [show Tryd.prog.globalNamed "internal/strconv.uint64pow10" = some 4 by kernel_rfl]
  simp [h]
theorem TenTab.below {w w' : World} (h : TenTab w) {B : Nat} (hb : Below B w w') (hB : w.heap.size ≤ B) : TenTab w' := by
  obtain ⟨T, fr, h⟩ := h
  exact ⟨T, fr, (hb.block _ (Nat.lt_of_lt_of_le (Array.getElem?_eq_some_iff.1 h).1 hB)).trans h⟩
theorem itoa_any (n : Int) (h0 : -9223372036854775808 ≤ n) (h1 : n ≤ 9223372036854775807) (w : World) (ht : TenTab w) :
    Calls Tryd.prog 18 #[.int .i64 n] w fun e w' => e = .returned (.string ⟨(Lib.itoa n).toArray⟩) ∧ Below w.heap.size w w' :=
  (Any.strconv_Itoa itoaLays n h0 h1 w ht.is).mono fun e w' ⟨he, k, os, hw⟩ => ⟨he, by rw [hw]; exact Lib.below_grow _ _ (Nat.le_refl _) _ _⟩
end Go.Proofs.YtechcmjmdepglaaDoor
