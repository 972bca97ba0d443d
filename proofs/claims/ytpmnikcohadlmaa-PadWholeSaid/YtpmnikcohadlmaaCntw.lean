/- Layer 4: '==' of counts, boxes of structs behind calls. No law is named here. -/
import Derived.Test.YtpmnikcohadlmaaRefcntb
import Derived.Deep.RegionHeld3
namespace Go.Proofs.Ytpmnikcohadlmaa
open Go.RowKit
set_option linter.unusedVariables false
set_option linter.unusedSimpArgs false
/-- Are two counts the same? Behind a name, so that the walk decides nothing of it by itself. -/
def eqC (a b c d : Int) : Bool := a == c && b == d
theorem eqC_self (a b : Int) : eqC a b a b = true := by simp [eqC]
theorem run_eqlC (a b c d : Int) (w : World) : (binOp .eql 24 (.agg #[.int .u64 a, .int .u64 b]) (.agg #[.int .u64 c, .int .u64 d])).run Try.prog w = .ok (.bool (eqC a b c d)) w := by
  unfold eqC
  by_cases h1 : a = c <;> by_cases h2 : b = d <;> simp [go_sem, h1, h2]
theorem run_neqC (a b c d : Int) (w : World) : (binOp .neq 24 (.agg #[.int .u64 a, .int .u64 b]) (.agg #[.int .u64 c, .int .u64 d])).run Try.prog w = .ok (.bool (!eqC a b c d)) w := by
  unfold eqC
  by_cases h1 : a = c <;> by_cases h2 : b = d <;> simp [go_sem, h1, h2]
attribute [go_sem ↓] run_eqlC run_neqC
theorem exec_neqC {ρ : Operand → Value} {dst : Option Tmp} {x y : Operand} {ty : TypeId} {pos : String} {after : Array Edge} {guard : Option (Nat × Bool)} {p q r s : Int} (hx : ρ x = .agg #[.int .u64 p, .int .u64 q]) (hy : ρ y = .agg #[.int .u64 r, .int .u64 s]) (w : World) :
    (execOp ρ ⟨dst, .binOp .neq 24 x y 24, ty, pos, after, guard⟩).run Try.prog w = .ok (.value (.bool (!eqC p q r s))) w := by
  simp [execOp, hx, hy, go_sem]
theorem exec_eqlC {ρ : Operand → Value} {dst : Option Tmp} {x y : Operand} {ty : TypeId} {pos : String} {after : Array Edge} {guard : Option (Nat × Bool)} {p q r s : Int} (hx : ρ x = .agg #[.int .u64 p, .int .u64 q]) (hy : ρ y = .agg #[.int .u64 r, .int .u64 s]) (w : World) :
    (execOp ρ ⟨dst, .binOp .eql 24 x y 24, ty, pos, after, guard⟩).run Try.prog w = .ok (.value (.bool (eqC p q r s))) w := by
  simp [execOp, hx, hy, go_sem]
theorem wp_neqC {dst : Option Tmp} {x y : Operand} {ty : TypeId} {pos : String} {after : Array Edge} {guard : Option (Nat × Bool)} {a : Act} {w : World} {K : Act → World → Prop} {Q : Exit → Act → World → Prop} {p q r s : Int} (hx : a.eval x = .agg #[.int .u64 p, .int .u64 q]) (hy : a.eval y = .agg #[.int .u64 r, .int .u64 s])
    (h : K (a.put dst (.bool (!eqC p q r s))) w) : Oper.wp Try.prog ⟨dst, .binOp .neq 24 x y 24, ty, pos, after, guard⟩ a w K Q := by
  unfold Oper.wp
  rw [exec_neqC hx hy]
  exact h
theorem wp_eqlC {dst : Option Tmp} {x y : Operand} {ty : TypeId} {pos : String} {after : Array Edge} {guard : Option (Nat × Bool)} {a : Act} {w : World} {K : Act → World → Prop} {Q : Exit → Act → World → Prop} {p q r s : Int} (hx : a.eval x = .agg #[.int .u64 p, .int .u64 q]) (hy : a.eval y = .agg #[.int .u64 r, .int .u64 s])
    (h : K (a.put dst (.bool (eqC p q r s))) w) : Oper.wp Try.prog ⟨dst, .binOp .eql 24 x y 24, ty, pos, after, guard⟩ a w K Q := by
  unfold Oper.wp
  rw [exec_eqlC hx hy]
  exact h
attribute [go_sem] eqC_self
/-! ### Boxes of structs behind calls -/
theorem box_call {W W' : World} {n k : Nat} (hb : Below W.heap.size W W') (h : RowOk W n k) : RowOk W' n k ∧ rowAt W' n = rowAt W n ∧ n ≠ W'.heap.size := by
  have hr := h.below hb h.lt
  refine ⟨hr, ?_, Nat.ne_of_lt hr.lt⟩
  unfold rowAt
  rw [hb.block n h.lt]
theorem box_old {W W' : World} {o : Obj} {n k : Nat} (hb : Below (W.alloc o).heap.size (W.alloc o) W') (h : RowOk W n k) : RowOk W' n k ∧ rowAt W' n = rowAt W n ∧ n ≠ W'.heap.size := by
  have h1 : RowOk (W.alloc o) n k := (RowOk_alloc_past h.lt).2 h
  have h2 : rowAt (W.alloc o) n = rowAt W n := rowAt_alloc_past h.lt
  rw [← h2]; exact box_call hb h1
theorem box_new {W W' : World} {c : Array Value} {t : TypeId} {k : Nat} (hb : Below (W.alloc (.cells c t)).heap.size (W.alloc (.cells c t)) W') (h : c.size = k) : RowOk W' W.heap.size k ∧ rowAt W' W.heap.size = c ∧ W.heap.size ≠ W'.heap.size := by
  have h1 : RowOk (W.alloc (.cells c t)) W.heap.size k := (RowOk_alloc_at rfl).2 h
  have h2 : rowAt (W.alloc (.cells c t)) W.heap.size = c := rowAt_alloc_at rfl
  have h3 := box_call hb h1
  rw [h2] at h3; exact h3
/-- What was added is taken away again. -/
theorem cOk_back (hi lo n : Nat) (hh : hi < 18446744073709551616) (hl : lo < 18446744073709551616) (hn : n < 18446744073709551616) (h : cOk (numC hi lo + n) = true) :
    cOk (subC (numC (cHi (numC hi lo + n)) (cLo (numC hi lo + n))) n) = true ∧ cHi (subC (numC (cHi (numC hi lo + n)) (cLo (numC hi lo + n))) n) = hi ∧ cLo (subC (numC (cHi (numC hi lo + n)) (cLo (numC hi lo + n))) n) = lo := by
  have h1 : numC hi lo + n < 340282366920938463463374607431768211456 := by unfold cOk at h; exact of_decide_eq_true h
  have h2 : numC (cHi (numC hi lo + n)) (cLo (numC hi lo + n)) = numC hi lo + n := by unfold cHi cLo; rw [if_pos h1, if_pos h1]; unfold numC; omega
  have h3 : numC hi lo < 340282366920938463463374607431768211456 := numC_lt hh hl
  have h4 : subC (numC hi lo + n) n = numC hi lo := by unfold subC; rw [if_pos (by omega)]; omega
  rw [h2, h4]
  unfold cOk cHi cLo
  rw [if_pos h3, if_pos h3, decide_eq_true h3]
  unfold numC
  refine ⟨rfl, by omega, by omega⟩
end Go.Proofs.Ytpmnikcohadlmaa
