/- Layer 5: the document's own answers: what stands behind the point. -/
import Derived.Test.YtechcmjmdepglaaDoorReflift
import Derived.Test.YtechcmjmdepglaaDoorRootlaw
import Derived.Deep.LoopGhost
namespace Go.Proofs.YtechcmjmdepglaaDoor
open Go.RowKit
set_option linter.unusedVariables false
set_option linter.unusedSimpArgs false

theorem pow65536 (n : Nat) : 65536 ^ (4 * n) = 18446744073709551616 ^ n := by rw [Nat.pow_mul]
/-- What the loop over the digits holds: of what stands behind the point, x, all but what U still bounds. -/
def PartTo (T n r x U : Nat) : Prop := x + U ≤ 18446744073709551616 ∧ (r * 18446744073709551616 + x) ^ n ≤ T ∧ T < (r * 18446744073709551616 + x + U) ^ n
theorem partTo_start {p n r U : Nat} (h1 : r ^ n ≤ p) (h2 : p < (r + 1) ^ n) (hU : U = 18446744073709551616) : PartTo (p * 18446744073709551616 ^ n) n r 0 U := by
  unfold PartTo
  rw [Nat.zero_add, Nat.add_zero, hU]
  refine ⟨Nat.le_refl _, ?_, ?_⟩
  · rw [Nat.mul_pow]; exact Nat.mul_le_mul_right _ h1
  · rw [← Nat.succ_mul, Nat.mul_pow]
    exact Nat.mul_lt_mul_of_pos_right h2 (Nat.pow_pos (by omega))
theorem partTo_next {T n r x P d : Nat} (hd : d ≤ 15) (h : PartTo T n r x (16 * P)) (h1 : (r * 18446744073709551616 + x + d * P) ^ n ≤ T) (h2 : T < (r * 18446744073709551616 + x + (d + 1) * P) ^ n) : PartTo T n r (x + d * P) P := by
  have hdp : d * P ≤ 15 * P := Nat.mul_le_mul_right _ hd
  refine ⟨by have := h.1; omega, by rw [← Nat.add_assoc]; exact h1, ?_⟩
  rw [← Nat.add_assoc, Nat.add_assoc _ (d * P), ← Nat.succ_mul]; exact h2
theorem part_root {p n r x R : Nat} (hr : r ≤ 1024) (hR : IsRoot n p R) (h : PartTo (p * 18446744073709551616 ^ n) n r x 1) : x = dgQ R 0 := by
  have h1 : IsRoot n p (r * 18446744073709551616 + x) := ⟨by have := h.1; omega, h.2.1, h.2.2⟩
  have := h1.uniq hR
  rw [dgQ_nil, ← this]
  have := h.1
  omega
/-! ### Digits laid into a row of four -/
def upF (ys : List Nat) (k : Nat) : Nat → Nat := fun j => if j < k then ys.getD j 0 else 0
theorem upF_zero (ys : List Nat) : uTab 4 (upF ys 0) = uTab 4 fun _ => 0 := tab_congr fun i _ => by unfold upF; rw [if_neg (by omega)]
theorem upF_step (ys : List Nat) (k : Nat) (u : Int) (hu : u = (ys.getD k 0 : Nat)) : (uTab 4 (upF ys k)).setIfInBounds k (.int .u64 u) = uTab 4 (upF ys (k + 1)) :=
  tab_set 4 _ _ k _ (by unfold upF; rw [if_pos (by omega), hu]) fun i _ hn => by unfold upF; by_cases h : i < k <;> simp [h, show i < k + 1 ↔ i < k by omega]
theorem upF_lt {ys : List Nat} (h : AllLt 65536 ys) (i : Nat) : upF ys ys.length i < 65536 := by
  unfold upF
  split
  · exact h.at (by assumption)
  · omega
theorem upF_val {ys : List Nat} (hl : ys.length ≤ 4) : valB (rowF 4 (upF ys ys.length)) = valB ys := by
  have h := trim_val (rowF 4 (upF ys ys.length)) ys.length (by rw [rowF_length]; exact hl) fun i h1 h2 => by
    rw [rowF_length] at h2
    unfold rowF
    rw [getD_map _ _ _ _ h2, upF, if_neg (by omega)]
  rw [← h]
  congr 1
  refine ext_getD (by rw [List.length_take, rowF_length]; omega) fun i hi => ?_
  rw [List.length_take, rowF_length] at hi
  rw [getD_take _ _ _ (by omega)]
  unfold rowF
  rw [getD_map _ _ _ _ (by omega), upF, if_pos (by omega)]
theorem row_four {w : World} {g : Nat} {t : TypeId} {f : Nat → Nat} (hg : w.heap[g]? = some (.cells (uTab 4 f) t (0, 0))) {base : Nat} (hb : base ≤ g) : Row .u64 t base w (.slice (some ⟨g, 0, none⟩) 4 4) (rowF 4 f) := by
  unfold Row
  rw [rowF_length]
  refine ⟨by rw [cellsOf_length, rowF_length], .inr ⟨g, 4, _, rfl, hb, hg, by omega, by unfold maxLen; omega, uTab_size _ _, ?_⟩⟩
  apply List.ext_getElem?
  intro i
  by_cases h : i < 4
  · rw [List.getElem?_take_of_lt (by omega), Array.getElem?_toList, uTab_at 4 f i h, cellsOf_at _ _ _ (by rw [rowF_length]; exact h)]
    unfold rowF
    rw [getD_map _ _ _ _ h]
  · rw [List.getElem?_eq_none (by rw [List.length_take]; omega), List.getElem?_eq_none (by rw [cellsOf_length, rowF_length]; omega)]
theorem frozen_row {w : World} {g i : Nat} {c : Array Value} {t : TypeId} (hg : w.heap[g]? = some (.cells c t (0, 0))) : w.frozen? ⟨g, i, none⟩ = false := by
  unfold World.frozen?
  simp [hg]
end Go.Proofs.YtechcmjmdepglaaDoor
