/- The library's iterators over bytes: slices.Chunk, slices.Backward; slices.Reverse. -/
import Derived.Test.YtpdbbeafleeajaaDoorRows
import Derived.Test.YtpdbbeafleeajaaDoorBytes
import Derived.RangeFuncNested
import Derived.RangeFuncBound
import Derived.RangeFuncCalls
import Derived.RangeFuncBox
import Derived.RangeFuncLeaves
import Derived.Shelf.Abstract
import Derived.Shelf.RegionOpen
import Derived.OwnWalkIn
import Derived.TacticsInMore
import Derived.LoopNIn
import Derived.LoopIn
import Derived.Maps.AppendAt
namespace Go.Proofs.YtpdbbeafleeajaaDoor
open Go.RowKit Go.Shelf
set_option linter.unusedVariables false
attribute [local go_sem] Oper.semAt_some

/-- Whatever lay below n₀ lies as it lay, and so do the blocks bs. -/
structure Keep (n₀ : Nat) (bs : List Nat) (W W' : World) : Prop where
  below : Below n₀ W W'
  same : ∀ b ∈ bs, W'.heap[b]? = W.heap[b]?
theorem Keep.refl (n₀ : Nat) (bs : List Nat) (W : World) : Keep n₀ bs W W := ⟨Below.refl _ _, fun _ _ => rfl⟩
theorem Keep.trans {n₀ : Nat} {bs : List Nat} {X Y Z : World} (h : Keep n₀ bs X Y) (k : Keep n₀ bs Y Z) : Keep n₀ bs X Z := ⟨h.below.trans k.below, fun b hb => (k.same b hb).trans (h.same b hb)⟩
theorem Keep.of_below {n₀ B : Nat} {bs : List Nat} {W W' : World} (h : Below B W W') (hn : n₀ ≤ B) (hb : ∀ b ∈ bs, b < B) : Keep n₀ bs W W' := ⟨h.mono hn, fun b hm => h.block b (hb b hm)⟩
theorem Keep.cell {n₀ : Nat} {bs : List Nat} {W W' : World} (h : Keep n₀ bs W W') {b : Nat} (hb : b ∈ bs) (o : Nat) : W'.cell? ⟨b, o, none⟩ = W.cell? ⟨b, o, none⟩ := by
  unfold World.cell?; rw [h.same b hb]
theorem Keep.setCell (n₀ : Nat) (bs : List Nat) (W : World) (p : Nat) (o : Nat) (v : Value) (h : n₀ ≤ p) (hb : ∀ b ∈ bs, b ≠ p) : Keep n₀ bs W (W.setCell ⟨p, o, none⟩ v) :=
  ⟨(Below.refl _ _).setCell (p := ⟨p, o, none⟩) h _, fun b hm => Below.heap_setCell W ⟨p, o, none⟩ v b (hb b hm)⟩
theorem keep_b {n₀ : Nat} {bs : List Nat} {w : World} (hn : n₀ ≤ w.heap.size) (hb : ∀ b ∈ bs, b < w.heap.size) (W : World) (l : Nat) (o o' : Obj) (hl : w.heap.size ≤ l) (h : W.heap[l]? = some o) (c1 : o.isCells = false) (c2 : o.isWalk = false) : Keep n₀ bs W (W.putObj l o') :=
  ⟨belowK_b hn W l o o' hl h c1 c2, fun b hm => World.putObj_heap_other (by have := hb b hm; omega)⟩

theorem grownBy_drewN (W : World) (m : Nat) : W.grownBy (W.drewN m) none := ⟨rfl, rfl, rfl, Nat.le_refl _, fun _ _ _ => rfl⟩
theorem keep_drewN (n₀ : Nat) (bs : List Nat) (W : World) (m : Nat) : Keep n₀ bs W (W.drewN m) := ⟨(Below.refl n₀ W).drewN m, fun _ _ => rfl⟩

/-- A piece of m elements of the slice at A, from place off on. -/
def piece (A : Option Addr) (off m : Nat) : Value := match A with
  | some a => .slice (some ⟨a.block, a.off + off, none⟩) m m
  | none => .slice none 0 0
theorem piece_some (b o off m : Nat) : piece (some ⟨b, o, none⟩) off m = .slice (some ⟨b, o + off, none⟩) m m := rfl
theorem words_piece {k : IntKind} {w : World} {b o : Nat} {xs : List Nat} (h : Words k w (some ⟨b, o, none⟩) xs) (j m : Nat) (hm : j < xs.length / m) : Words k w (some ⟨b, o + j * m, none⟩) (chunk m xs j) := fun i hi => by
  rw [chunk_length m xs j hm] at hi
  have h1 : (j + 1) * m ≤ xs.length := Nat.le_trans (Nat.mul_le_mul_right m hm) (Nat.div_mul_le_self _ _)
  rw [Nat.add_mul] at h1
  obtain ⟨b', o', e, hc⟩ := h (j * m + i) (by omega)
  cases e
  exact ⟨b, o + j * m, rfl, by rw [Nat.add_assoc, hc, chunk_getD _ _ _ _ hi]⟩

end Go.Proofs.YtpdbbeafleeajaaDoor
