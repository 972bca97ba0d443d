/- Layer 5: the document's own answers: powers of numbers in digits. | Layer 5: the document's own answers: whole roots. | Layer 5: the document's own answers: numbers moved up. | Layer 5: the document's own answers: what stands behind the point. -/
import Derived.Test.YtechcmjmdepglaaDoorRefmul
import Derived.Laws.AppendOwnNone
import Derived.Test.YtechcmjmdepglaaDoorRootlaw
import Derived.Deep.LoopGhost
/- Refpow -/
section
namespace Go.Proofs.YtechcmjmdepglaaDoor
open Go.RowKit
set_option linter.unusedVariables false
set_option linter.unusedSimpArgs false
/-- What a call gives: a number's digits. -/
def GivesNum (X L : Nat) (w : World) (e : Ending) (w' : World) : Prop := ∃ A c zs, e = .returned (.slice A zs.length c) ∧ NumAt X zs ∧ zs.length ≤ L ∧ Words .u64 w' A zs ∧ zs.length ≤ c ∧ c ≤ maxLen ∧ Below w.heap.size w w'
end Go.Proofs.YtechcmjmdepglaaDoor
end

/- Refwhole -/
section
namespace Go.Proofs.YtechcmjmdepglaaDoor
open Go.RowKit
set_option linter.unusedVariables false
set_option linter.unusedSimpArgs false
theorem Gives.num {X L : Nat} {t : TypeId} {ys : List Nat} {w w' : World} {e : Ending} (h : Gives .u64 t ys w e w') (hn : NumAt X ys) (hl : ys.length ≤ L) : GivesNum X L w e w' := by
  obtain ⟨A, c, rfl, hr, hw, hb⟩ := h
  refine ⟨A, c, ys, rfl, hn, hl, hw, ?_, ?_, hb⟩
  · rcases hr.2 with ⟨e0, h0⟩ | ⟨g, cap, cur, e0, hbg, hg, hn, hm, _⟩
    · rw [h0]; exact Nat.zero_le _
    · injection e0 with _ e2 e3; subst e3; exact hn
  · rcases hr.2 with ⟨e0, h0⟩ | ⟨g, cap, cur, e0, hbg, hg, hn, hm, _⟩
    · injection e0 with _ e2 e3; subst e3; exact Nat.zero_le _
    · injection e0 with _ e2 e3; subst e3; exact hm
theorem le_powN {k n : Nat} (hn : 1 ≤ n) : k ≤ k ^ n := by
  rcases Nat.eq_zero_or_pos k with rfl | h
  · exact Nat.zero_le _
  · calc k = k ^ 1 := (Nat.pow_one k).symm
      _ ≤ k ^ n := Nat.pow_le_pow_right h hn
end Go.Proofs.YtechcmjmdepglaaDoor
end

/- Reflift -/
section
namespace Go.Proofs.YtechcmjmdepglaaDoor
open Go.RowKit
set_option linter.unusedVariables false
set_option linter.unusedSimpArgs false
theorem row_zeros (t : TypeId) (w : World) (n : Nat) (hn : n ≤ maxLen) : Row .u64 t w.heap.size (w.alloc (.cells (zeros .u64 n) t)) (.slice (some ⟨w.heap.size, 0, none⟩) n n) (rowF n fun _ => 0) := by
  have h := Row.upTo (kd := .u64) (t := t) (f := fun _ => 0) w (Nat.le_refl _) hn
  have e : upTo .u64 n (fun _ => 0) n = zeros .u64 n := by rw [upTo_zero .u64 n fun _ => 0]; exact tab_congr fun i _ => by simp
  rw [e] at h
  exact h
theorem words_addr {k : IntKind} {w : World} {ad : Addr} {ys : List Nat} (h : Words k w (some ad) ys) : ∀ j u, (cellsOf k ys)[j]? = some u → w.cell? (ad.add j) = some u := fun j u hj => by
  have hlt : j < ys.length := by
    have := (List.getElem?_eq_some_iff.1 hj).1
    rwa [cellsOf_length] at this
  obtain ⟨b, o, e, hc⟩ := h j hlt
  cases e
  rw [addr_add, hc, ← hj, cellsOf_at _ _ _ hlt]
theorem lift_val (n : Nat) (xs : List Nat) : valB (rowF n (fun _ => 0) ++ xs) = valB xs * 65536 ^ n := by
  rw [valB_append, rowF_length, show valB (rowF n fun _ => 0) = 0 from valF_zeros n _ fun _ => rfl, Nat.zero_add, Nat.mul_comm]
theorem Row.words_at5 {k : IntKind} {t : TypeId} {base : Nat} {w : World} {A : Option Addr} {n c : Nat} {xs : List Nat} (h : Row k t base w (.slice A n c) xs) : n = xs.length ∧ Words k w A xs := by
  obtain ⟨A', c', e, hw⟩ := h.words
  injection e with e1 e2 e3
  subst e1
  exact ⟨e2, hw⟩
/-- Where a slice is nil it has no room. -/
def NilOk (A : Option Addr) (c : Nat) : Prop := A = none → c = 0
theorem Row.nilOk {k : IntKind} {t : TypeId} {base : Nat} {w : World} {A : Option Addr} {n c : Nat} {xs : List Nat} (h : Row k t base w (.slice A n c) xs) : NilOk A c := fun e => by
  subst e
  rcases h.2 with ⟨e0, h0⟩ | ⟨g, cap, cur, e0, _⟩
  · injection e0
  · injection e0 with e1; cases e1
theorem Row.capOk {k : IntKind} {t : TypeId} {base : Nat} {w : World} {A : Option Addr} {n c : Nat} {xs : List Nat} (h : Row k t base w (.slice A n c) xs) : xs.length ≤ c ∧ c ≤ maxLen := by
  rcases h.2 with ⟨e0, h0⟩ | ⟨g, cap, cur, e0, hbg, hg, hn, hm, _⟩
  · injection e0 with _ e2 e3; subst e3; rw [h0]; exact ⟨Nat.le_refl _, Nat.zero_le _⟩
  · injection e0 with _ e2 e3; subst e3; exact ⟨hn, hm⟩
/-- append of words that lie somewhere, or of a nil slice, to a row of the call's own. -/
theorem append_words {P : Program} {w : World} {ops : Array Oper} {rest : List Oper} {o : Oper} {a : Act} {Q : Exit → Act → World → Prop} (hgd : o.guard = none) (s x : Operand) (t : TypeId)
    (ho : o.op = .call { callee := .builtin .append, args := #[s, x], argTypes := #[t, t] })
    (base : Nat) (e : TypeId) (i : TypeInfo) (ht : P.underlying t = some (.slice e)) (hi : P.info? e = some i) (hz : i.zero = some (.int .u64 0)) (hsize : i.size = 1) (hby : i.bytes = 8)
    (v : Value) (zs : List Nat) (hs : a.eval s = v) (hown : Row .u64 e base w v zs) (A : Option Addr) (c : Nat) (ys : List Nat) (hx : a.eval x = .slice A ys.length c) (hnil : NilOk A c) (hw : Words .u64 w A ys)
    (hlen : zs.length + ys.length ≤ 1000) (hbase : base ≤ w.heap.size)
    (h : ∀ v' w', Row .u64 e base w' v' (zs ++ ys) → w.grownBy w' v.ownBlock → wpList P ops Q rest (a.put o.dst v') w') : wpList P ops Q (o :: rest) a w := by
  rcases A with _ | ad
  · obtain rfl : ys = [] := by
      rcases ys with _ | ⟨y, l⟩
      · rfl
      · obtain ⟨b, o', e', _⟩ := hw 0 (by simp); cases e'
    rw [hnil rfl] at hx
    exact wpList_append_own_none hgd s x t ho base e i 1 ht hi v zs.length (cellsOf .u64 zs) hs hown hx (h v w (by rw [List.append_nil]; exact hown) ⟨rfl, rfl, rfl, Nat.le_refl _, fun _ _ _ => rfl⟩)
  · exact wpList_append_own w hgd s x t ho base e i (.int .u64 0) 1 8 ht hi hz hsize hby rfl (by decide) v zs.length (cellsOf .u64 zs) hs hown ad ys.length c (cellsOf .u64 ys) hx (by rw [cellsOf_length, Nat.mul_one]) (words_addr hw) (cellsOf_oneCell _ _) (by unfold maxLen; omega) (by omega) hbase
      fun v' w' h1 h2 _ => h v' w' (Row.append h1) h2
end Go.Proofs.YtechcmjmdepglaaDoor
end

/- Refpart -/
section
namespace Go.Proofs.YtechcmjmdepglaaDoor
open Go.RowKit
set_option linter.unusedVariables false
set_option linter.unusedSimpArgs false

theorem pow65536 (n : Nat) : 65536 ^ (4 * n) = 18446744073709551616 ^ n := by rw [Nat.pow_mul]
/-- What the loop over the digits holds: of what stands behind the point, x, all but what U still bounds. -/
def PartTo (T n r x U : Nat) : Prop := x + U ≤ 18446744073709551616 ∧ (r * 18446744073709551616 + x) ^ n ≤ T ∧ T < (r * 18446744073709551616 + x + U) ^ n
theorem partTo_start {p n r U : Nat} (h1 : r ^ n ≤ p) (h2 : p < (r + 1) ^ n) (hU : U = 18446744073709551616) : PartTo (p * 18446744073709551616 ^ n) n r 0 U := by
  unfold PartTo
  rw [Nat.zero_add, Nat.add_zero, hU]
  refine ⟨Nat.le_refl _, ?_, ?_⟩
  · rw [Nat.mul_pow]; exact Nat.mul_le_mul_right _ h1
  · rw [← Nat.succ_mul, Nat.mul_pow]
    exact Nat.mul_lt_mul_of_pos_right h2 (Nat.pow_pos (by omega))
theorem partTo_next {T n r x P d : Nat} (hd : d ≤ 15) (h : PartTo T n r x (16 * P)) (h1 : (r * 18446744073709551616 + x + d * P) ^ n ≤ T) (h2 : T < (r * 18446744073709551616 + x + (d + 1) * P) ^ n) : PartTo T n r (x + d * P) P := by
  have hdp : d * P ≤ 15 * P := Nat.mul_le_mul_right _ hd
  refine ⟨by have := h.1; omega, by rw [← Nat.add_assoc]; exact h1, ?_⟩
  rw [← Nat.add_assoc, Nat.add_assoc _ (d * P), ← Nat.succ_mul]; exact h2
theorem part_root {p n r x R : Nat} (hr : r ≤ 1024) (hR : IsRoot n p R) (h : PartTo (p * 18446744073709551616 ^ n) n r x 1) : x = dgQ R 0 := by
  have h1 : IsRoot n p (r * 18446744073709551616 + x) := ⟨by have := h.1; omega, h.2.1, h.2.2⟩
  have := h1.uniq hR
  rw [dgQ_nil, ← this]
  have := h.1
  omega
/-! ### Digits laid into a row of four -/
def upF (ys : List Nat) (k : Nat) : Nat → Nat := fun j => if j < k then ys.getD j 0 else 0
theorem upF_zero (ys : List Nat) : uTab 4 (upF ys 0) = uTab 4 fun _ => 0 := tab_congr fun i _ => by unfold upF; rw [if_neg (by omega)]
theorem upF_step (ys : List Nat) (k : Nat) (u : Int) (hu : u = (ys.getD k 0 : Nat)) : (uTab 4 (upF ys k)).setIfInBounds k (.int .u64 u) = uTab 4 (upF ys (k + 1)) :=
  tab_set 4 _ _ k _ (by unfold upF; rw [if_pos (by omega), hu]) fun i _ hn => by unfold upF; by_cases h : i < k <;> simp [h, show i < k + 1 ↔ i < k by omega]
theorem upF_lt {ys : List Nat} (h : AllLt 65536 ys) (i : Nat) : upF ys ys.length i < 65536 := by
  unfold upF
  split
  · exact h.at (by assumption)
  · omega
theorem upF_val {ys : List Nat} (hl : ys.length ≤ 4) : valB (rowF 4 (upF ys ys.length)) = valB ys := by
  have h := trim_val (rowF 4 (upF ys ys.length)) ys.length (by rw [rowF_length]; exact hl) fun i h1 h2 => by
    rw [rowF_length] at h2
    unfold rowF
    rw [getD_map _ _ _ _ h2, upF, if_neg (by omega)]
  rw [← h]
  congr 1
  refine ext_getD (by rw [List.length_take, rowF_length]; omega) fun i hi => ?_
  rw [List.length_take, rowF_length] at hi
  rw [getD_take _ _ _ (by omega)]
  unfold rowF
  rw [getD_map _ _ _ _ (by omega), upF, if_pos (by omega)]
theorem row_four {w : World} {g : Nat} {t : TypeId} {f : Nat → Nat} (hg : w.heap[g]? = some (.cells (uTab 4 f) t (0, 0))) {base : Nat} (hb : base ≤ g) : Row .u64 t base w (.slice (some ⟨g, 0, none⟩) 4 4) (rowF 4 f) := by
  unfold Row
  rw [rowF_length]
  refine ⟨by rw [cellsOf_length, rowF_length], .inr ⟨g, 4, _, rfl, hb, hg, by omega, by unfold maxLen; omega, uTab_size _ _, ?_⟩⟩
  apply List.ext_getElem?
  intro i
  by_cases h : i < 4
  · rw [List.getElem?_take_of_lt (by omega), Array.getElem?_toList, uTab_at 4 f i h, cellsOf_at _ _ _ (by rw [rowF_length]; exact h)]
    unfold rowF
    rw [getD_map _ _ _ _ h]
  · rw [List.getElem?_eq_none (by rw [List.length_take]; omega), List.getElem?_eq_none (by rw [cellsOf_length, rowF_length]; omega)]
theorem frozen_row {w : World} {g i : Nat} {c : Array Value} {t : TypeId} (hg : w.heap[g]? = some (.cells c t (0, 0))) : w.frozen? ⟨g, i, none⟩ = false := by
  unfold World.frozen?
  simp [hg]
end Go.Proofs.YtechcmjmdepglaaDoor
end
