/- Layer 3: load: the calls that range over the library's iterators. -/
import Derived.Test.YthdnolhbefikoaaLoad
import Derived.Test.YthdnolhbefikoaaIter
namespace Go.Proofs.Ythdnolhbefikoaa
open Go.RowKit Go.Shelf
set_option linter.unusedVariables false
attribute [local go_sem] Oper.semAt_some

/-- An append within a region, kept from the walk's unfolding: its run is laid as an equation. -/
def appendK (ts : Array TypeId) (ty : TypeId) (vs : Array Value) : Sem Value := Builtin.append_ ts ty vs
theorem append_hide (ts : Array TypeId) (ty : TypeId) (vs : Array Value) : Builtin.append_ ts ty vs = appendK ts ty vs := rfl
attribute [local go_sem ↓] append_hide
theorem cellsW {w : World} {t : TypeId} {v : Value} : (w.alloc (.cells #[v] t)).cell? ⟨w.heap.size, 0, none⟩ = some v := (Boxed.new w t v).cell
/-- A slice of words is collected: its box stands at B + 2, the library's boxes at B + 3 and B + 4. -/
def Col (k : IntKind) (t e ts ti : TypeId) (B : Nat) (sv nv : Value) (w1 : World) (ys : List Nat) (W : World) : Prop :=
  ((∃ v, Boxed W (B + 2) t v ∧ W.ownsRow (B + 1) e 1 v ys.length (cellsOf k ys) ∧ True) ∧ Boxed W (B + 3) ts sv ∧ Boxed W (B + 4) ti nv) ∧ Below (B + 1) w1 W
theorem col_own {β : Type} (f : β → List Nat) (k : IntKind) (t e ts ti : TypeId) (B B' : Nat) (sv nv : Value) (w1 : World) (hs : B + 1 ≤ w1.heap.size) (hB : B + 1 ≤ B') : OwnFrom B' (fun s W => Col k t e ts ti B sv nv w1 (f s) W) :=
  OwnFrom.and (OwnFrom.and (Own.from (holdsRow_own (B + 1) (B + 2) t e 1 (fun s => (f s).length) (fun s => cellsOf k (f s)) (fun _ _ => True)) _)
    (OwnFrom.and (Own.from (boxed_own (B + 3) ts (fun _ => sv)) _) (Own.from (boxed_own (B + 4) ti (fun _ => nv)) _))) (ownFrom_below hs hB)
theorem keepsOthers_below {W W' : World} (h : Below W.heap.size W W') : KeepsOthers W W' := ⟨h.size, fun k o hk _ => (h.block k (Array.getElem?_eq_some_iff.1 hk).1).trans hk⟩
theorem boxed_below {W W' : World} {B : Nat} {t : TypeId} {v : Value} (h : Boxed W B t v) (hb : Below W.heap.size W W') : Boxed W' B t v := (hb.block B h.lt).trans h
theorem below_of_drew {B : Nat} {W W' : World} (h : Below B W.drew W') : Below B W W' := ⟨h.os, h.tape, h.output, h.size, h.block⟩
theorem Col.step {k : IntKind} {t e ts ti : TypeId} {B B' : Nat} {sv nv : Value} {w1 W w2 w3 : World} {ys zs : List Nat} {v v' : Value} {tmp : Obj}
    (hte : t ≠ e) (hse : ts ≠ e) (hie : ti ≠ e) (hv : Boxed W (B + 2) t v) (hrow : W.ownsRow (B + 1) e 1 v ys.length (cellsOf k ys)) (hs : Boxed W (B + 3) ts sv) (hn : Boxed W (B + 4) ti nv) (hB : Below (B + 1) w1 W) (hB1 : B + 1 ≤ W.heap.size)
    (hb2 : Below W.heap.size W w2) (hown' : w3.ownsRow (B + 1) e 1 v' zs.length (cellsOf k zs)) (hgrow : (w2.alloc tmp).grownBy w3 v.ownBlock) :
    KeepsFrom B' W (w3.setCell ⟨B + 2, 0, none⟩ v') ∧ Keep B [B + 3, B + 4] W (w3.setCell ⟨B + 2, 0, none⟩ v') ∧ Col k t e ts ti B sv nv w1 zs (w3.setCell ⟨B + 2, 0, none⟩ v') := by
  have hv2 := boxed_below hv hb2
  have hs2 := boxed_below hs hb2
  have hn2 := boxed_below hn hb2
  have hrow2 : w2.ownsRow (B + 1) e 1 v ys.length (cellsOf k ys) := Row.below hrow hb2 (Nat.le_refl _)
  have hsz : B + 1 ≤ w2.heap.size := Nat.le_trans hB1 hb2.size
  obtain ⟨h1, h2, h3, h4, h5⟩ := hv2.appended hte hrow2 hsz (by omega) hown' hgrow
  have hs3 : Boxed w3 (B + 3) ts sv := (hs2.alloc tmp).kept hgrow (hs2.not_row hse hrow2)
  have hn3 : Boxed w3 (B + 4) ti nv := (hn2.alloc tmp).kept hgrow (hn2.not_row hie hrow2)
  have hs4 := hs3.other (by omega : B + 3 ≠ B + 2) v'
  have hn4 := hn3.other (by omega : B + 4 ≠ B + 2) v'
  have hB5 : Below (B + 1) W (w3.setCell ⟨B + 2, 0, none⟩ v') := (hb2.mono hB1).trans h5
  refine ⟨((keepsOthers_below hb2).trans h4).from _, ⟨hB5.mono (by omega), fun b hm => ?_⟩, ⟨⟨⟨v', h2, h3, trivial⟩, hs4, hn4⟩, hB.trans hB5⟩⟩
  simp only [List.mem_cons, List.not_mem_nil, or_false] at hm
  rcases hm with rfl | rfl
  · exact hs4.trans hs.symm
  · exact hn4.trans hn.symm
end Go.Proofs.Ythdnolhbefikoaa
