/- append onto a slice of the call's own, as one step of a region that draws: what the old slice held it holds still. No program is named here. -/
import Derived.Test.YtechcmjmdepglaaDoorRows
import Derived.Test.YtechcmjmdepglaaDoorBytes
import Derived.Deep.RegionLawGrows
import Derived.Deep.AppendLies
namespace Go.Proofs.YtechcmjmdepglaaDoor
open Go.RowKit
set_option linter.unusedVariables false
set_option linter.unusedSimpArgs false
theorem setCells_row (g : Nat) : ∀ (vs : List Value) (o : Nat) (w : World) (cur : Array Value) (t : TypeId) (fr : Nat × Nat), w.heap[g]? = some (.cells cur t fr) → o + vs.length ≤ cur.size →
    ∃ cur' : Array Value, (w.setCells g o vs).heap[g]? = some (.cells cur' t fr) ∧ cur'.toList = cur.toList.take o ++ vs ++ cur.toList.drop (o + vs.length)
  | [], o, w, cur, t, fr, hg, h => ⟨cur, hg, by simp⟩
  | v :: r, o, w, cur, t, fr, hg, h => by
    have hs : (w.setCell ⟨g, o, none⟩ v).heap[g]? = some (.cells (cur.setIfInBounds o v) t fr) := by
      rw [setCell_eq_setRow _ _ _ _ _ _ v hg, setRow_heap _ _ _ _ _ _ hg]
    obtain ⟨cur', h1, h2⟩ := setCells_row g r (o + 1) _ _ t fr hs (by simp at h ⊢; omega)
    refine ⟨cur', h1, ?_⟩
    rw [h2]
    have ho : o < cur.toList.length := by simp at h ⊢; omega
    rw [Array.toList_setIfInBounds]
    have e1 : (cur.toList.set o v).take (o + 1) = cur.toList.take o ++ [v] := by
      rw [List.take_succ_eq_append_getElem (by simpa using ho), List.take_set_of_le (Nat.le_refl _)]
      simp
    have e2 : (cur.toList.set o v).drop (o + 1 + r.length) = cur.toList.drop (o + (v :: r).length) := by
      rw [List.drop_set_of_lt (by omega)]
      simp only [List.length_cons]
      congr 1
      omega
    rw [e1, e2]
    simp
theorem Below.setCellsAt {B : Nat} {a w : World} (h : Below B a w) {b : Nat} (hb : B ≤ b) (o : Nat) (vs : List Value) : Below B a (w.setCells b o vs) := by
  induction vs generalizing o w with
  | nil => exact h
  | cons v r ih => exact ih (h.setCell (p := ⟨b, o, none⟩) hb v) (o + 1)
/-- append, one step of a region that draws. -/
theorem step_append_row {P : Program} {ops : Array Oper} {o : Oper} {a : Act} {w : World} {K : Act → World → Prop} {Q : Exit → Act → World → Prop} {E : Prop}
    (hg : o.guard = none) (s x : Operand) (t : TypeId) (hop : o.op = Op.call { callee := Callee.builtin Builtin.append, args := #[s, x], argTypes := #[t, t] })
    (e : TypeId) (i : TypeInfo) (z : Value) (bytes : Nat) (h1 : P.underlying t = some (.slice e)) (h2 : P.info? e = some i) (h3 : i.zero = some z) (h4 : i.size = 1) (h5 : i.bytes = bytes) (h6 : z.cells.size = 1)
    (k : IntKind) (base g n cap : Nat) (xs : List Nat) (hs : a.eval s = .slice (some ⟨g, 0, none⟩) n cap) (hn0 : xs.length = n) (hpos : 0 < n) (R : Row k e base w (.slice (some ⟨g, 0, none⟩) n cap) xs) (hbase : base ≤ w.heap.size)
    (ad : Addr) (m c : Nat) (ys : List Nat) (hx : a.eval x = .slice (some ad) m c) (hn : ys.length = m) (hc : ∀ j u, (cellsOf k ys)[j]? = some u → w.cell? (ad.add j) = some u)
    (b1 : n + m ≤ maxLen) (b2 : (n + m) * bytes ≤ 140737488355328)
    (hK : ∀ g' cap' w', Row k e base w' (.slice (some ⟨g', 0, none⟩) (n + m) cap') (xs ++ ys) → Row k e base w' (.slice (some ⟨g, 0, none⟩) n cap) xs → Below base w w' → K (a.put o.dst (.slice (some ⟨g', 0, none⟩) (n + m) cap')) w') :
    if Region.wanted o (yielded ops a.tmps) = true then Oper.wp P o a w K Q else E := by
  subst hn0
  subst hn
  have R' := R
  obtain ⟨hl, ⟨h0, _⟩ | ⟨g1, cap1, cur, hv, hbg, hgw, hnc, hcm, hsz, htk⟩⟩ := R
  · cases h0
  injection hv with e1 e2 e3
  injection e1 with e1
  injection e1 with e1 _ _
  subst e1; subst e3
  simp only [Nat.mul_one] at hsz htk
  rcases Nat.lt_or_ge cap (xs.length + ys.length) with hfull | hroom
  · refine step_append_grows hg s x t hop e i z 1 bytes h1 h2 h3 h4 h5 h6 (by omega) (some ⟨g, 0, none⟩) xs.length cap (cellsOf k xs) hs (fun h => by cases h) (by rw [cellsOf_length, Nat.mul_one]) ?_ ad ys.length c (cellsOf k ys) hx (by rw [cellsOf_length, Nat.mul_one]) hc (cellsOf_oneCell _ _) hfull b1 b2 ?_
    · rintro b ⟨⟩ j u hj
      rw [addr_add, cell_of_row _ _ _ _ _ _ hgw, Nat.zero_add]
      rw [← htk] at hj
      have hj' : j < xs.length := by
        rcases Nat.lt_or_ge j xs.length with h | h
        · exact h
        · rw [List.getElem?_eq_none (by rw [List.length_take]; omega)] at hj; cases hj
      rw [List.getElem?_take_of_lt hj'] at hj
      simpa using hj
    · intro v' w' hown hgr
      obtain ⟨g', cap', rfl, hb', hlt'⟩ := World.ownsRow.form hown (by omega)
      have hb : Below base w w' := (Below.refl base w).grown hgr hbase (fun k hk => by cases hk)
      have hbw : Below w.heap.size w w' := (Below.refl w.heap.size w).grown hgr (Nat.le_refl _) (fun k hk => by cases hk)
      refine hK g' cap' w' ?_ (R'.below hbw (Nat.le_refl _)) hb
      have hrow : w'.ownsRow base e 1 (.slice (some ⟨g', 0, none⟩) (xs.length + ys.length) cap') (xs.length + ys.length) (cellsOf k xs ++ cellsOf k ys) := by
        obtain ⟨hl2, ⟨q0, _⟩ | ⟨g2, cap2, cur2, hv2, hbg2, r2⟩⟩ := hown
        · cases q0
        · exact ⟨hl2, .inr ⟨g2, cap2, cur2, hv2, Nat.le_trans hbase hbg2, r2⟩⟩
      exact Row.append hrow
  · refine step_append_room hg s x t hop e i 1 h1 h2 h4 g 0 xs.length cap hs ad ys.length c (cellsOf k ys) hx (by rw [cellsOf_length, Nat.mul_one]) hc (cellsOf_oneCell _ _) hroom ?_ ?_
    · intro j hj
      rw [cellsOf_length] at hj
      refine ⟨?_, ?_⟩
      · rw [cell_of_row _ _ _ _ _ _ hgw, Array.getElem?_eq_getElem (by omega)]; rfl
      · simp only [World.frozen?, hgw]; simp
    · have hfit : 0 + xs.length * 1 + (cellsOf k ys).length ≤ cur.size := by rw [cellsOf_length]; omega
      obtain ⟨cur', hg', hl'⟩ := setCells_row g (cellsOf k ys) (0 + xs.length * 1) w cur e (0, 0) hgw hfit
      have hs' : cur'.size = cap * 1 := by
        rw [← Array.length_toList, hl']
        simp only [List.length_append, List.length_take, List.length_drop, cellsOf_length, Array.length_toList]
        omega
      have hlen : cur.toList.length = cap := by rw [Array.length_toList]; omega
      have htk' : cur'.toList.take xs.length = cellsOf k xs := by
        rw [hl', List.append_assoc, List.take_append_of_le_length (by rw [List.length_take]; omega), List.take_take, Nat.min_eq_left (by omega), htk]
      refine hK g cap _ ?_ ⟨hl, .inr ⟨g, cap, cur', rfl, hbg, hg', hnc, hcm, by rw [hs'], by rw [Nat.mul_one]; exact htk'⟩⟩ (Below.setCellsAt (Below.refl base w) hbg _ _)
      refine Row.append ⟨by simp [cellsOf_length], .inr ⟨g, cap, cur', rfl, hbg, hg', hroom, hcm, by rw [hs'], ?_⟩⟩
      rw [hl', Nat.mul_one, show 0 + xs.length * 1 = xs.length by omega, htk]
      rw [List.take_left' (by simp [cellsOf_length])]
end Go.Proofs.YtechcmjmdepglaaDoor
