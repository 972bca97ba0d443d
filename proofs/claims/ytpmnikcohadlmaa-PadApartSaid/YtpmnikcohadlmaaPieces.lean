/- Slices of slices that a call collects: pieces of its own, in a row of its own, in a box. No function is named here. -/
import Derived.Test.YtpmnikcohadlmaaLawpads
import Derived.Test.YtpmnikcohadlmaaIterg
import Derived.Test.YtpmnikcohadlmaaLoadit
import Derived.Maps.AppendAt
namespace Go.Proofs.Ytpmnikcohadlmaa
open Go.RowKit Go.Shelf
set_option linter.unusedVariables false
theorem ownsRow_belowP {X Y : World} {base : Nat} {e : TypeId} {size : Nat} {v : Value} {n : Nat} {cs : List Value} (h : X.ownsRow base e size v n cs) (hb : Below X.heap.size X Y) : Y.ownsRow base e size v n cs := by
  refine ⟨h.1, ?_⟩
  rcases h.2 with h' | ⟨g, cap, cur, rfl, h1, hg, rest⟩
  · exact .inl h'
  · exact .inr ⟨g, cap, cur, rfl, h1, (hb.block g (Array.getElem?_eq_some_iff.1 hg).1).trans hg, rest⟩
/-- The value c is a slice of the bytes p, in a row of its own. -/
def PieceAt (base : Nat) (W : World) (c : Value) (p : List Nat) : Prop := ∃ b cap, c = .slice (some ⟨b, 0, none⟩) p.length cap ∧ Row .u8 5 base W c p
theorem PieceAt.kept {base : Nat} {X Y : World} {row : Option Nat} {c : Value} {p : List Nat} (h : PieceAt base X c p) (hg : X.grownBy Y row) (hne : c.ownBlock ≠ row) : PieceAt base Y c p := by
  obtain ⟨b, cap, e, hr⟩ := h
  exact ⟨b, cap, e, World.ownsRow.kept hr hg (.inr hne)⟩
theorem PieceAt.below {base : Nat} {X Y : World} {c : Value} {p : List Nat} (h : PieceAt base X c p) (hb : Below X.heap.size X Y) : PieceAt base Y c p := by
  obtain ⟨b, cap, e, hr⟩ := h
  exact ⟨b, cap, e, Row.below hr hb (Nat.le_refl _)⟩
/-- A piece's block holds bytes: it is no block of another type. -/
theorem PieceAt.block {base : Nat} {W : World} {c : Value} {p : List Nat} (h : PieceAt base W c p) : ∃ b cur, c.ownBlock = some b ∧ W.heap[b]? = some (.cells cur 5 (0, 0)) := by
  obtain ⟨b, cap, rfl, hr⟩ := h
  rcases hr.2 with ⟨e, _⟩ | ⟨g, cap', cur, e, _, hg, _⟩
  · cases e
  · injection e with e1 _ _
    injection e1 with e1
    injection e1 with e1
    subst e1
    exact ⟨b, cur, rfl, hg⟩
theorem PieceAt.apart {base : Nat} {W : World} {c : Value} {p : List Nat} (h : PieceAt base W c p) {k : Nat} {cur : Array Value} {t : TypeId} {f : Nat × Nat} (ht : t ≠ 5) (hk : W.heap[k]? = some (.cells cur t f)) : c.ownBlock ≠ some k := by
  obtain ⟨b, cur', e, hb⟩ := h.block
  rw [e]
  intro e'
  cases e'
  rw [hb] at hk
  cases hk
  exact ht rfl
theorem PieceAt.apart_row {base base' : Nat} {W : World} {c v : Value} {p : List Nat} (h : PieceAt base W c p) {t : TypeId} (ht : t ≠ 5) {size n : Nat} {cs : List Value} (hr : W.ownsRow base' t size v n cs) : c.ownBlock ≠ v.ownBlock := by
  obtain ⟨b, cur', e, hb⟩ := h.block
  rcases hr.2 with ⟨rfl, _⟩ | ⟨g, cap, cur, rfl, _, hg, _⟩
  · rw [e]; simp [Value.ownBlock]
  · exact h.apart ht hg
/-- The pieces ps lie in v: v's row is the block that was made first, or one made behind the boxes. -/
structure Blks (B : Nat) (W : World) (v : Value) (ps : List (List Nat)) : Prop where
  row : ∃ cs : List Value, W.ownsRow (B + 1) 26 1 v ps.length cs ∧ ∀ (j : Nat) (c : Value) (p : List Nat), cs[j]? = some c → ps[j]? = some p → PieceAt (B + 1) W c p
  apart : ∀ k, v.ownBlock = some k → k = B + 1 ∨ B + 6 ≤ k
theorem Blks.kept {B : Nat} {X Y : World} {row : Option Nat} {v : Value} {ps : List (List Nat)} (h : Blks B X v ps) (hg : X.grownBy Y row) (h1 : ∀ k, row = some k → v.ownBlock ≠ some k) (h2 : ∀ k, row = some k → ∀ cur f, X.heap[k]? ≠ some (.cells cur 5 f)) : Blks B Y v ps := by
  obtain ⟨cs, hr, hp⟩ := h.row
  refine ⟨⟨cs, hr.kept hg ?_, fun j c p hc hpj => (hp j c p hc hpj).kept hg ?_⟩, h.apart⟩
  · cases row with
    | none => cases hv : v.ownBlock with
      | none => exact .inl rfl
      | some k => exact .inr (by simp)
    | some k => exact .inr (h1 k rfl)
  · cases row with
    | none =>
      obtain ⟨b, cur, e, _⟩ := (hp j c p hc hpj).block
      rw [e]; simp
    | some k =>
      obtain ⟨b, cur, e, hb⟩ := (hp j c p hc hpj).block
      rw [e]
      intro e'
      cases e'
      exact h2 _ rfl cur _ hb
theorem Blks.keptO {B : Nat} {X Y : World} {row : Option Nat} {v : Value} {ps : List (List Nat)} (h : Blks B X v ps) (hg : X.grownBy Y row) (hrow : ∀ r, row = some r → ∃ o : Obj, X.heap[r]? = some o ∧ o.isCells = false) : Blks B Y v ps := by
  refine h.kept hg (fun k e e' => ?_) (fun k e cur f e' => ?_)
  · obtain ⟨o, ho, hc⟩ := hrow k e
    obtain ⟨cs, hr, _⟩ := h.row
    rcases hr.2 with ⟨rfl, _⟩ | ⟨g, cap, cur, rfl, _, hgb, _⟩
    · simp [Value.ownBlock] at e'
    · obtain rfl : g = k := by simpa [Value.ownBlock] using e'
      rw [hgb] at ho; cases ho; cases hc
  · obtain ⟨o, ho, hc⟩ := hrow k e
    rw [e'] at ho; cases ho; cases hc
theorem PieceAt.keptO {base : Nat} {X Y : World} {row : Option Nat} {c : Value} {p : List Nat} (h : PieceAt base X c p) (hg : X.grownBy Y row) (hrow : ∀ r, row = some r → ∃ o : Obj, X.heap[r]? = some o ∧ o.isCells = false) : PieceAt base Y c p := by
  refine h.kept hg (fun er => ?_)
  obtain ⟨b, cur, eb, hbb⟩ := h.block
  rw [eb] at er
  obtain ⟨o, ho, hco⟩ := hrow b er.symm
  rw [hbb] at ho; cases ho; cases hco
theorem Blks.below {B : Nat} {X Y : World} {v : Value} {ps : List (List Nat)} (h : Blks B X v ps) (hb : Below X.heap.size X Y) : Blks B Y v ps := by
  obtain ⟨cs, hr, hp⟩ := h.row
  refine ⟨⟨cs, ?_, fun j c p hc hpj => (hp j c p hc hpj).below hb⟩, h.apart⟩
  refine ⟨hr.1, ?_⟩
  rcases hr.2 with h' | ⟨g, cap, cur, rfl, h1, hg, rest⟩
  · exact .inl h'
  · exact .inr ⟨g, cap, cur, rfl, h1, (hb.block g (Array.getElem?_eq_some_iff.1 hg).1).trans hg, rest⟩
theorem Blks.none {B : Nat} {W : World} {v : Value} (hr : W.ownsRow (B + 1) 26 1 v 0 []) (ha : ∀ k, v.ownBlock = some k → k = B + 1 ∨ B + 6 ≤ k) : Blks B W v [] :=
  ⟨⟨[], hr, fun j c p hc => by simp at hc⟩, ha⟩
/-- What holds at a loop's head: the pieces in their box, what is left in its, the library's two. -/
structure Inv (B : Nat) (sv nv : Value) (w1 W : World) (ps : List (List Nat)) (left : Value) : Prop where
  blocks : ∃ v, Boxed W (B + 2) 33 v ∧ Blks B W v ps
  left : Boxed W (B + 3) 26 left
  src : Boxed W (B + 4) 26 sv
  num : Boxed W (B + 5) 3 nv
  below : Below (B + 1) w1 W
theorem boxed_no_cells {W : World} {B k : Nat} {t : TypeId} {v : Value} {o : Obj} (h : Boxed W B t v) (ho : W.heap[k]? = some o) (hc : o.isCells = false) : some B ≠ some k := by
  intro e; cases e
  have := (show W.heap[B]? = _ from h).symm.trans ho
  cases this; cases hc
theorem Inv.kept {B : Nat} {sv nv left : Value} {w1 X Y : World} {ps : List (List Nat)} {row : Option Nat} (h : Inv B sv nv w1 X ps left) (hs : B + 1 ≤ w1.heap.size) (hg : X.grownBy Y row) (hrow : ∀ r, row = some r → B + 1 ≤ r ∧ ∃ o : Obj, X.heap[r]? = some o ∧ o.isCells = false) : Inv B sv nv w1 Y ps left := by
  obtain ⟨⟨v, hv, hb⟩, h3, h4, h5, h6⟩ := h
  have key : ∀ {k : Nat} {t : TypeId} {u : Value}, Boxed X k t u → Boxed Y k t u := fun hk => hk.kept hg (fun e => by
    obtain ⟨_, o, ho, hc⟩ := hrow _ e.symm
    exact boxed_no_cells hk ho hc rfl)
  refine ⟨⟨v, key hv, hb.keptO hg (fun r e => (hrow r e).2)⟩, key h3, key h4, key h5, h6.grown hg (Nat.le_trans hs h6.size) (fun k e => (hrow k e).1)⟩
theorem Inv.own {β : Type} (f : β → List (List Nat)) (left : Value) {B B' : Nat} {sv nv : Value} {w1 : World} (hs : B + 1 ≤ w1.heap.size) (hB : B + 1 ≤ B') : OwnFrom B' (fun s W => Inv B sv nv w1 W (f s) left) := by
  rintro s X Y row h hg hr
  exact h.kept hs hg (fun r e => ⟨Nat.le_trans hB (hr r e).1, (hr r e).2⟩)
theorem Inv.belowW {B : Nat} {sv nv left : Value} {w1 X Y : World} {ps : List (List Nat)} (h : Inv B sv nv w1 X ps left) (hs : B + 1 ≤ w1.heap.size) (hb : Below X.heap.size X Y) : Inv B sv nv w1 Y ps left := by
  obtain ⟨⟨v, hv, hbk⟩, h3, h4, h5, h6⟩ := h
  exact ⟨⟨v, boxed_below hv hb, hbk.below hb⟩, boxed_below h3 hb, boxed_below h4 hb, boxed_below h5 hb, h6.trans (hb.mono (Nat.le_trans hs h6.size))⟩
/-- A piece is appended, and the box filled anew. -/
theorem Inv.step {B B' : Nat} {sv nv left v v' : Value} {w1 W w2 w3 : World} {ps : List (List Nat)} {cs : List Value} {c : Value} {p : List Nat} {tmp : Obj} (h : Inv B sv nv w1 W ps left) (hs : B + 1 ≤ w1.heap.size)
    (hv : Boxed W (B + 2) 33 v) (hrow : W.ownsRow (B + 1) 26 1 v ps.length cs) (hps : ∀ (j : Nat) (c : Value) (p : List Nat), cs[j]? = some c → ps[j]? = some p → PieceAt (B + 1) W c p) (ha : ∀ k, v.ownBlock = some k → k = B + 1 ∨ B + 6 ≤ k)
    (hb2 : Below W.heap.size W w2) (hc : PieceAt (B + 1) w2 c p) (hown' : w3.ownsRow (B + 1) 26 1 v' (ps.length + 1) (cs ++ [c])) (hgrow : (w2.alloc tmp).grownBy w3 v.ownBlock) (hown : v'.ownBlock = v.ownBlock ∨ v'.ownBlock = some (w2.alloc tmp).heap.size) :
    (Boxed w3 (B + 2) 33 v) ∧ KeepsFrom B' W (w3.setCell ⟨B + 2, 0, none⟩ v') ∧ Keep B [B + 4, B + 5] W (w3.setCell ⟨B + 2, 0, none⟩ v') ∧ Inv B sv nv w1 (w3.setCell ⟨B + 2, 0, none⟩ v') (ps ++ [p]) left := by
  obtain ⟨-, h3, h4, h5, h6⟩ := h
  have hB1 : B + 1 ≤ W.heap.size := Nat.le_trans hs h6.size
  have hsz : B + 1 ≤ w2.heap.size := Nat.le_trans hB1 hb2.size
  have hlt5 := h5.lt
  have hv2 := boxed_below hv hb2
  have hrow2 : w2.ownsRow (B + 1) 26 1 v ps.length cs := by
    refine ⟨hrow.1, ?_⟩
    rcases hrow.2 with h' | ⟨g, cap, cur, rfl, h1, hg, rest⟩
    · exact .inl h'
    · exact .inr ⟨g, cap, cur, rfl, h1, (hb2.block g (Array.getElem?_eq_some_iff.1 hg).1).trans hg, rest⟩
  obtain ⟨a1, a2, a3, a4, a5⟩ := hv2.appended (by decide) hrow2 hsz (by omega) hown' hgrow
  have ne : ∀ k, k = B + 3 ∨ k = B + 4 ∨ k = B + 5 → some k ≠ v.ownBlock := fun k hk e => by rcases ha k e.symm with h | h <;> omega
  have key : ∀ {k : Nat} {t : TypeId} {u : Value}, (k = B + 3 ∨ k = B + 4 ∨ k = B + 5) → Boxed W k t u → Boxed (w3.setCell ⟨B + 2, 0, none⟩ v') k t u := fun hk hx =>
    (((boxed_below hx hb2).alloc tmp).kept hgrow (ne _ hk)).other (by omega) v'
  have k3 := key (.inl rfl) h3
  have k4 := key (.inr (.inl rfl)) h4
  have k5 := key (.inr (.inr rfl)) h5
  have hB5 : Below (B + 1) W (w3.setCell ⟨B + 2, 0, none⟩ v') := (hb2.mono hB1).trans a5
  have hall : ∀ j c' p', (cs ++ [c])[j]? = some c' → (ps ++ [p])[j]? = some p' → PieceAt (B + 1) w2 c' p' := fun j c' p' e1 e2 => by
    have hl : cs.length = ps.length := by have := hrow.1; omega
    by_cases hj : j < cs.length
    · rw [List.getElem?_append_left hj] at e1
      rw [List.getElem?_append_left (by omega)] at e2
      exact (hps j c' p' e1 e2).below hb2
    · rw [List.getElem?_append_right (by omega)] at e1 e2
      have hj2 : j = cs.length := by
        have := (List.getElem?_eq_some_iff.1 e1).1
        simp at this; omega
      subst hj2
      rw [Nat.sub_self] at e1
      rw [hl, Nat.sub_self] at e2
      simp at e1 e2
      subst e1; subst e2
      exact hc
  have hto : ∀ c' p', PieceAt (B + 1) w2 c' p' → PieceAt (B + 1) (w3.setCell ⟨B + 2, 0, none⟩ v') c' p' := fun c' p' hx => by
    have x1 : PieceAt (B + 1) (w2.alloc tmp) c' p' := hx.below ((Below.refl _ w2).alloc (Nat.le_refl _) tmp)
    have x2 : PieceAt (B + 1) w3 c' p' := x1.kept hgrow (x1.apart_row (by decide) (hrow2.alloc tmp))
    exact x2.kept (grownBy_setCell' w3 (B + 2) v') (x2.apart (t := 33) (by decide) a1)
  refine ⟨a1, ((keepsOthers_below hb2).trans a4).from _, ⟨hB5.mono (by omega), fun b hm => ?_⟩, ⟨⟨v', a2, ⟨cs ++ [c], by rw [List.length_append]; exact a3, fun j c' p' e1 e2 => hto c' p' (hall j c' p' e1 e2)⟩, fun k hk => ?_⟩, k3, k4, k5, h6.trans hB5⟩⟩
  · simp only [List.mem_cons, List.not_mem_nil, or_false] at hm
    rcases hm with rfl | rfl
    · exact k4.trans h4.symm
    · exact k5.trans h5.symm
  · rcases hown with e | e
    · exact ha k (e ▸ hk)
    · rw [e] at hk
      cases hk
      right
      have := hb2.size
      simp; omega
/-- What is left is laid in its box. -/
theorem Inv.leave {B B' : Nat} {sv nv left lv : Value} {w1 W w2 : World} {ps : List (List Nat)} {p : List Nat} (h : Inv B sv nv w1 W ps left) (hs : B + 1 ≤ w1.heap.size) (hb2 : Below W.heap.size W w2) (hc : PieceAt (B + 1) w2 lv p) :
    KeepsFrom B' W (w2.setCell ⟨B + 3, 0, none⟩ lv) ∧ Inv B sv nv w1 (w2.setCell ⟨B + 3, 0, none⟩ lv) ps lv ∧ PieceAt (B + 1) (w2.setCell ⟨B + 3, 0, none⟩ lv) lv p := by
  obtain ⟨⟨v, hv, hbk⟩, h3, h4, h5, h6⟩ := h.belowW hs hb2
  have hg := grownBy_setCell' w2 (B + 3) lv
  refine ⟨((keepsOthers_below hb2).trans (KeepsOthers.setCell _ _ _)).from _, ⟨⟨v, hv.other (by omega) lv, hbk.kept hg (fun k e e' => ?_) (fun k e cur f e' => ?_)⟩, h3.set lv, h4.other (by omega) lv, h5.other (by omega) lv, h6.trans ((Below.refl _ w2).setCell (p := ⟨B + 3, 0, none⟩) (by simp) lv)⟩, hc.kept hg (hc.apart (t := 26) (by decide) h3)⟩
  · cases e
    rcases hbk.apart _ e' with h | h <;> omega
  · cases e
    have := (show w2.heap[B + 3]? = _ from h3).symm.trans e'
    revert this
    simp
end Go.Proofs.Ytpmnikcohadlmaa
