/- Layer 5: the document's own answers: numbers moved up. -/
import Derived.Test.YtechcmjmdepglaaDoorRefwhole
import Derived.Laws.AppendOwnNone
namespace Go.Proofs.YtechcmjmdepglaaDoor
open Go.RowKit
set_option linter.unusedVariables false
set_option linter.unusedSimpArgs false
theorem row_zeros (t : TypeId) (w : World) (n : Nat) (hn : n ≤ maxLen) : Row .u64 t w.heap.size (w.alloc (.cells (zeros .u64 n) t)) (.slice (some ⟨w.heap.size, 0, none⟩) n n) (rowF n fun _ => 0) := by
  have h := Row.upTo (kd := .u64) (t := t) (f := fun _ => 0) w (Nat.le_refl _) hn
  have e : upTo .u64 n (fun _ => 0) n = zeros .u64 n := by rw [upTo_zero .u64 n fun _ => 0]; exact tab_congr fun i _ => by simp
  rw [e] at h
  exact h
theorem words_addr {k : IntKind} {w : World} {ad : Addr} {ys : List Nat} (h : Words k w (some ad) ys) : ∀ j u, (cellsOf k ys)[j]? = some u → w.cell? (ad.add j) = some u := fun j u hj => by
  have hlt : j < ys.length := by
    have := (List.getElem?_eq_some_iff.1 hj).1
    rwa [cellsOf_length] at this
  obtain ⟨b, o, e, hc⟩ := h j hlt
  cases e
  rw [addr_add, hc, ← hj, cellsOf_at _ _ _ hlt]
theorem lift_val (n : Nat) (xs : List Nat) : valB (rowF n (fun _ => 0) ++ xs) = valB xs * 65536 ^ n := by
  rw [valB_append, rowF_length, show valB (rowF n fun _ => 0) = 0 from valF_zeros n _ fun _ => rfl, Nat.zero_add, Nat.mul_comm]
theorem Row.words_at5 {k : IntKind} {t : TypeId} {base : Nat} {w : World} {A : Option Addr} {n c : Nat} {xs : List Nat} (h : Row k t base w (.slice A n c) xs) : n = xs.length ∧ Words k w A xs := by
  obtain ⟨A', c', e, hw⟩ := h.words
  injection e with e1 e2 e3
  subst e1
  exact ⟨e2, hw⟩
/-- Where a slice is nil it has no room. -/
def NilOk (A : Option Addr) (c : Nat) : Prop := A = none → c = 0
theorem Row.nilOk {k : IntKind} {t : TypeId} {base : Nat} {w : World} {A : Option Addr} {n c : Nat} {xs : List Nat} (h : Row k t base w (.slice A n c) xs) : NilOk A c := fun e => by
  subst e
  rcases h.2 with ⟨e0, h0⟩ | ⟨g, cap, cur, e0, _⟩
  · injection e0
  · injection e0 with e1; cases e1
theorem Row.capOk {k : IntKind} {t : TypeId} {base : Nat} {w : World} {A : Option Addr} {n c : Nat} {xs : List Nat} (h : Row k t base w (.slice A n c) xs) : xs.length ≤ c ∧ c ≤ maxLen := by
  rcases h.2 with ⟨e0, h0⟩ | ⟨g, cap, cur, e0, hbg, hg, hn, hm, _⟩
  · injection e0 with _ e2 e3; subst e3; rw [h0]; exact ⟨Nat.le_refl _, Nat.zero_le _⟩
  · injection e0 with _ e2 e3; subst e3; exact ⟨hn, hm⟩
/-- append of words that lie somewhere, or of a nil slice, to a row of the call's own. -/
theorem append_words {P : Program} {w : World} {ops : Array Oper} {rest : List Oper} {o : Oper} {a : Act} {Q : Exit → Act → World → Prop} (hgd : o.guard = none) (s x : Operand) (t : TypeId)
    (ho : o.op = .call { callee := .builtin .append, args := #[s, x], argTypes := #[t, t] })
    (base : Nat) (e : TypeId) (i : TypeInfo) (ht : P.underlying t = some (.slice e)) (hi : P.info? e = some i) (hz : i.zero = some (.int .u64 0)) (hsize : i.size = 1) (hby : i.bytes = 8)
    (v : Value) (zs : List Nat) (hs : a.eval s = v) (hown : Row .u64 e base w v zs) (A : Option Addr) (c : Nat) (ys : List Nat) (hx : a.eval x = .slice A ys.length c) (hnil : NilOk A c) (hw : Words .u64 w A ys)
    (hlen : zs.length + ys.length ≤ 1000) (hbase : base ≤ w.heap.size)
    (h : ∀ v' w', Row .u64 e base w' v' (zs ++ ys) → w.grownBy w' v.ownBlock → wpList P ops Q rest (a.put o.dst v') w') : wpList P ops Q (o :: rest) a w := by
  rcases A with _ | ad
  · obtain rfl : ys = [] := by
      rcases ys with _ | ⟨y, l⟩
      · rfl
      · obtain ⟨b, o', e', _⟩ := hw 0 (by simp); cases e'
    rw [hnil rfl] at hx
    exact wpList_append_own_none hgd s x t ho base e i 1 ht hi v zs.length (cellsOf .u64 zs) hs hown hx (h v w (by rw [List.append_nil]; exact hown) ⟨rfl, rfl, rfl, Nat.le_refl _, fun _ _ _ => rfl⟩)
  · exact wpList_append_own w hgd s x t ho base e i (.int .u64 0) 1 8 ht hi hz hsize hby rfl (by decide) v zs.length (cellsOf .u64 zs) hs hown ad ys.length c (cellsOf .u64 ys) hx (by rw [cellsOf_length, Nat.mul_one]) (words_addr hw) (cellsOf_oneCell _ _) (by unfold maxLen; omega) (by omega) hbase
      fun v' w' h1 h2 _ => h v' w' (Row.append h1) h2
end Go.Proofs.YtechcmjmdepglaaDoor
