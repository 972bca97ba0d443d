/- A row of which the model may say that something behind its end is frozen (what '[]byte(s)' lays): append. No program is named here. -/
import Derived.Test.YtechcmjmdepglaaDoorFblk
import Derived.Laws.IdiomStrings
import Derived.ArgAppend
namespace Go.Proofs.YtechcmjmdepglaaDoor
open Go.RowKit
set_option linter.unusedVariables false
set_option linter.unusedSimpArgs false
/-- Block g, of cap cells, begins with the words xs; none of its cells is frozen. -/
def RowG (k : IntKind) (t : TypeId) (base : Nat) (w : World) (g cap : Nat) (xs : List Nat) : Prop :=
  base ≤ g ∧ xs.length ≤ cap ∧ cap ≤ maxLen ∧ ∃ cur lo hi, w.heap[g]? = some (.cells cur t (lo, hi)) ∧ (hi = 0 ∨ cur.size ≤ lo) ∧ cur.size = cap ∧ cur.toList.take xs.length = cellsOf k xs
theorem RowG.lt {k : IntKind} {t : TypeId} {base : Nat} {w : World} {g cap : Nat} {xs : List Nat} (h : RowG k t base w g cap xs) : g < w.heap.size := by
  obtain ⟨_, _, _, cur, lo, hi, hg, _⟩ := h
  exact (Array.getElem?_eq_some_iff.1 hg).1
theorem RowG.below {k : IntKind} {t : TypeId} {base : Nat} {w w' : World} {g cap : Nat} {xs : List Nat} (h : RowG k t base w g cap xs) (hb : Below w.heap.size w w') : RowG k t base w' g cap xs := by
  have hlt := h.lt
  obtain ⟨h1, h2, h3, cur, lo, hi, hg, h4⟩ := h
  exact ⟨h1, h2, h3, cur, lo, hi, (hb.block g hlt).trans hg, h4⟩
theorem RowG.words {k : IntKind} {t : TypeId} {base : Nat} {w : World} {g cap : Nat} {xs : List Nat} (h : RowG k t base w g cap xs) : Words k w (some ⟨g, 0, none⟩) xs := by
  obtain ⟨h1, h2, h3, cur, lo, hi, hg, h4, h5, h6⟩ := h
  intro i hi'
  refine ⟨g, 0, rfl, ?_⟩
  rw [cell_of_row _ _ _ _ _ _ hg, Nat.zero_add, ← Array.getElem?_toList]
  have e := congrArg (fun l : List Value => l[i]?) h6
  simp only [List.getElem?_take, hi', if_true] at e
  rw [e, cellsOf_at _ _ _ hi']
theorem rowG_of_string (w : World) (t : TypeId) (s : ByteArray) (cap : Nat) (hc : s.size ≤ cap) (hm : cap ≤ maxLen) {base : Nat} (hb : base ≤ w.heap.size) :
    RowG .u8 t base (w.alloc (.cells (bytesRow s cap) t ((bytesRow s cap).size, (bytesRow s cap).size + 1))) w.heap.size cap (strL s) := by
  refine ⟨hb, by rw [strL_length]; exact hc, hm, _, _, _, heap_alloc_new w _, .inr (Nat.le_refl _), ?_, ?_⟩
  · unfold bytesRow; rw [Array.size_append, Array.size_map, Array.size_replicate]; show s.size + (cap - s.size) = cap; omega
  · unfold bytesRow
    rw [Array.toList_append, strL_cells, List.take_left' (by rw [cellsOf_length])]
theorem wpList_append_rowG {P : Program} {w : World} {ops : Array Oper} {rest : List Oper} {o : Oper} {a : Act} {Q : Exit → Act → World → Prop} (hgd : o.guard = none) (s x : Operand) (t : TypeId)
    (ho : o.op = .call { callee := .builtin .append, args := #[s, x], argTypes := #[t, t] }) (e : TypeId) (i : TypeInfo) (k : IntKind) (bytes : Nat) (ht : P.underlying t = some (.slice e)) (hi : P.info? e = some i) (hz : i.zero = some (.int k 0)) (hsize : i.size = 1) (hby : i.bytes = bytes)
    (base g n cap : Nat) (xs : List Nat) (hs : a.eval s = .slice (some ⟨g, 0, none⟩) n cap) (hn : xs.length = n) (R : RowG k e base w g cap xs) (hbase : base ≤ w.heap.size) (ad : Addr) (c y : Nat) (hx : a.eval x = .slice (some ad) 1 c) (hc : w.cell? (ad.add 0) = some (.int k (y : Nat)))
    (hlim : (n + 1) * bytes ≤ 140737488355328) (hmax : n + 1 ≤ maxLen)
    (h : ∀ g' cap' w', RowG k e base w' g' cap' (xs ++ [y]) → Below base w w' → wpList P ops Q rest (a.put o.dst (.slice (some ⟨g', 0, none⟩) (n + 1) cap')) w') : wpList P ops Q (o :: rest) a w := by
  subst hn
  have hnews : ∀ j u, ([Value.int k (y : Nat)] : List Value)[j]? = some u → w.cell? (ad.add j) = some u := fun j u hj => by
    match j, hj with
    | 0, hj => injection hj with e; subst e; exact hc
    | j + 1, hj => cases hj
  have h1 : ∀ u ∈ [Value.int k (y : Nat)], u.oneCell' = true := fun u hu => by
    rw [List.mem_singleton.1 hu]; rfl
  have hwd := R.words
  obtain ⟨hb, hl, hm, cur, lo, hi', hg, hfr, hcs, htk⟩ := R
  refine wpList_plain hgd fun J hJ => ?_
  by_cases hroom : xs.length + 1 ≤ cap
  · have hcell : w.cell? ⟨g, xs.length, none⟩ = some cur[xs.length] := by rw [cell_of_row _ _ _ _ _ _ hg]; simp
    have hfz : w.frozen? ⟨g, xs.length, none⟩ = false := by
      simp only [World.frozen?, hg, Bool.and_eq_false_iff, decide_eq_false_iff_not]
      rcases hfr with hz0 | hlo
      · right; omega
      · left; omega
    have hrun := run_append_room_cells (P := P) w t o.type e i ht hi g 0 xs.length cap ad 1 c [.int k (y : Nat)] (by rw [hsize]; rfl) hnews h1 hroom
      (fun j hj => by rw [hsize]; obtain rfl : j = 0 := by simpa using hj
                      simp [hcell])
      (fun j hj => by rw [hsize]; obtain rfl : j = 0 := by simpa using hj
                      simpa using hfz)
    have e1 : w.setCells g (0 + xs.length * i.size) [.int k (y : Nat)] = w.setRow g (cur.setIfInBounds xs.length (.int k (y : Nat))) := by
      rw [hsize, Nat.zero_add, Nat.mul_one]
      show w.setCell ⟨g, xs.length, none⟩ _ = _
      rw [setCell_eq_setRow _ _ _ _ _ _ _ hg]
    rw [e1] at hrun
    unfold Oper.wp
    simp [execOp, ho, resolve, invoke, builtin, hs, hx, hrun, Result.andThen]
    refine hJ _ _ (h _ _ _ ⟨hb, ?_, hm, _, lo, hi', setRow_heap w g _ _ e _ hg, ?_, ?_, ?_⟩ (below_setRow (Below.refl _ _) hb _))
    · rw [List.length_append]; exact hroom
    · rw [Array.size_setIfInBounds]; exact hfr
    · rw [Array.size_setIfInBounds]; exact hcs
    · rw [Array.toList_setIfInBounds, List.length_append, cellsOf_append, ← htk]
      show List.take (xs.length + 1) _ = _
      rw [List.take_add_one, List.take_set_of_le (Nat.le_refl _), List.getElem?_set_self (show xs.length < cur.toList.length by have e : cur.toList.length = cap := (by simpa using hcs); rw [e]; exact hroom)]
      rfl
  · obtain ⟨v', w', hrun, hown, hgr⟩ := run_append_arg_grows (P := P) w t o.type e i (.int k 0) 1 bytes ht hi hz hsize hby rfl (by omega) ⟨g, 0, none⟩ xs.length cap (cellsOf k xs) (by rw [cellsOf_length, Nat.mul_one]) (words_add hwd) ad 1 c [.int k (y : Nat)] rfl hnews (by omega) hmax hlim
    obtain ⟨hlen, ⟨rfl, h0⟩ | ⟨g2, cap2, cur2, rfl, hb2, hg2, hn2, hm2, hs2, ht2⟩⟩ := hown
    · omega
    unfold Oper.wp
    simp [execOp, ho, resolve, invoke, builtin, hs, hx, hrun, Result.andThen]
    refine hJ _ _ (h _ _ _ ⟨Nat.le_trans hbase hb2, ?_, hm2, _, 0, 0, hg2, .inl rfl, by omega, ?_⟩ ((Below.refl _ _).grown hgr hbase (fun k hk => by cases hk)))
    · rw [List.length_append]; exact hn2
    · rw [List.length_append, cellsOf_append]; exact (congrArg (fun m => List.take m cur2.toList) (Nat.mul_one _).symm).trans ht2
end Go.Proofs.YtechcmjmdepglaaDoor
