/- append of bytes that lie somewhere to a row of the call's own. No program is named here. -/
import Derived.Test.YthdnolhbefikoaaRefload
import Derived.Laws.AppendOwnNone
namespace Go.Proofs.Ythdnolhbefikoaa
open Go.RowKit
set_option linter.unusedVariables false
set_option linter.unusedSimpArgs false
theorem words_addr8 {k : IntKind} {w : World} {ad : Addr} {ys : List Nat} (h : Words k w (some ad) ys) : ∀ j u, (cellsOf k ys)[j]? = some u → w.cell? (ad.add j) = some u := fun j u hj => by
  have hlt : j < ys.length := by
    have := (List.getElem?_eq_some_iff.1 hj).1
    rwa [cellsOf_length] at this
  obtain ⟨b, o, e, hc⟩ := h j hlt
  cases e
  have hadd : (⟨b, o, none⟩ : Addr).add j = ⟨b, o + j, none⟩ := by unfold Addr.add; split <;> simp_all
  rw [hadd, hc, ← hj, cellsOf_at _ _ _ hlt]
/-- append of bytes that lie somewhere to a row of the call's own. -/
theorem append_bytes {P : Program} {w : World} {ops : Array Oper} {rest : List Oper} {o : Oper} {a : Act} {Q : Exit → Act → World → Prop} (hgd : o.guard = none) (s x : Operand) (t : TypeId)
    (ho : o.op = .call { callee := .builtin .append, args := #[s, x], argTypes := #[t, t] })
    (base : Nat) (e : TypeId) (i : TypeInfo) (ht : P.underlying t = some (.slice e)) (hi : P.info? e = some i) (hz : i.zero = some (.int .u8 0)) (hsize : i.size = 1) (hby : i.bytes = 1)
    (v : Value) (zs : List Nat) (hs : a.eval s = v) (hown : Row .u8 e base w v zs) (ad : Addr) (c : Nat) (ys : List Nat) (hx : a.eval x = .slice (some ad) ys.length c) (hw : Words .u8 w (some ad) ys)
    (hlen : zs.length + ys.length ≤ 1000) (hbase : base ≤ w.heap.size)
    (h : ∀ v' w', Row .u8 e base w' v' (zs ++ ys) → w.grownBy w' v.ownBlock → wpList P ops Q rest (a.put o.dst v') w') : wpList P ops Q (o :: rest) a w :=
  wpList_append_own w hgd s x t ho base e i (.int .u8 0) 1 1 ht hi hz hsize hby rfl (by decide) v zs.length (cellsOf .u8 zs) hs hown ad ys.length c (cellsOf .u8 ys) hx (by rw [cellsOf_length, Nat.mul_one]) (words_addr8 hw) (cellsOf_oneCell _ _) (by unfold maxLen; omega) (by omega) hbase
    fun v' w' h1 h2 _ => h v' w' (Row.append h1) h2
end Go.Proofs.Ythdnolhbefikoaa
