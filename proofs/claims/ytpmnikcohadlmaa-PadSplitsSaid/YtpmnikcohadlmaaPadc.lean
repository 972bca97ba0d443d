/- Layer 10: pad: Split. -/
import Derived.Test.YtpmnikcohadlmaaPieces
import Derived.Test.YtpmnikcohadlmaaClone
import Derived.WalkMore
namespace Go.Proofs.Ytpmnikcohadlmaa
open Go.RowKit Go.Shelf
set_option linter.unusedVariables false
set_option linter.unusedSimpArgs false
attribute [local go_sem] Oper.semAt_some
attribute [local go_sem ↓] append_hide
theorem wpIn_scopeW {n : Nat} {P : Program} {c : Code} {Q : Exit → Act → World → Prop} {a : Act} {w : World} (h : c.wpIn Fence.wide n P (Exit.noGoto Q) a w) : (Code.scope c).wpIn Fence.wide n P Q a w :=
  wpIn_wide.2 (wp_scope_straight (wpIn_wide.1 h))
theorem words_dropP {k : IntKind} {W : World} {b o : Nat} {xs : List Nat} (h : Words k W (some ⟨b, o, Option.none⟩) xs) (d : Nat) : Words k W (some ⟨b, o + d, Option.none⟩) (xs.drop d) := fun i hi => by
  rw [List.length_drop] at hi
  obtain ⟨b', o', e, hc⟩ := h (d + i) (by omega)
  cases e
  refine ⟨b, o + d, rfl, ?_⟩
  rw [getD_drop, Nat.add_assoc]
  exact hc
theorem words_takeP {k : IntKind} {W : World} {A : Option Addr} {xs : List Nat} (h : Words k W A xs) (d : Nat) : Words k W A (xs.take d) := fun i hi => by
  rw [List.length_take] at hi
  obtain ⟨b', o', e, hc⟩ := h i (by omega)
  refine ⟨b', o', e, ?_⟩
  rw [getD_take _ _ _ (by omega)]
  exact hc
theorem gives_piece {B : Nat} {W W0 w' : World} {p : List Nat} {e : Ending} (h : Gives .u8 5 p W0 e w') (h0 : W0 = W ∨ W0 = W.drew) (hp : 0 < p.length) (hB : B + 1 ≤ W.heap.size) :
    ∃ g c1, e = .returned (.slice (some ⟨g, 0, Option.none⟩) p.length c1) ∧ PieceAt (B + 1) w' (.slice (some ⟨g, 0, Option.none⟩) p.length c1) p ∧ Below W.heap.size W w' := by
  obtain ⟨A1, c1, rfl, hr, -, hb⟩ := h
  have hs : W0.heap.size = W.heap.size := by rcases h0 with rfl | rfl <;> rfl
  have hbW : Below W.heap.size W w' := by
    rcases h0 with rfl | rfl
    · exact hb
    · exact below_of_drew hb
  rw [hs] at hr
  have hr2 : Row .u8 5 (B + 1) w' (.slice A1 p.length c1) p := Row.mono hr hB
  rcases hr2.2 with ⟨e, e0⟩ | ⟨g, cap, cur, e, _⟩
  · omega
  · injection e with e1 e2 e3
    subst e1
    exact ⟨g, c1, rfl, ⟨g, c1, rfl, hr2⟩, hbW⟩
theorem Gives.nilP {k : IntKind} {t : TypeId} {ys : List Nat} {w w' : World} {c : Nat} (h : Row k t w.heap.size w' (.slice Option.none ys.length c) ys) : c = 0 := by
  rcases h.2 with ⟨e, _⟩ | ⟨g, cap, cur, e, _⟩
  · injection e
  · cases e
/-- The last piece but whole ones: how many there are. -/
theorem pieces_whole {len s : Nat} (h0 : 0 < s) (h : ∀ x ∈ List.range (piecesN len s), (min x (piecesN len s - 1) + 1) * s ≤ len) : len / s = piecesN len s ∧ piecesN len s * s = len := by
  have he := pieces_end len s h0
  rcases Nat.eq_zero_or_pos (piecesN len s) with hz | hp
  · rw [hz, Nat.zero_mul] at he
    obtain rfl : len = 0 := by omega
    rw [hz]
    simp
  · have h1 := h (piecesN len s - 1) (List.mem_range.2 (by omega))
    rw [Nat.min_self, Nat.sub_add_cancel hp] at h1
    have h2 : piecesN len s * s = len := by omega
    refine ⟨?_, h2⟩
    have h3 : (piecesN len s * s) / s = piecesN len s := Nat.mul_div_cancel _ h0
    rw [h2] at h3
    exact h3
theorem pieces_short {len s k : Nat} (h0 : 0 < s) (hk : k < piecesN len s) (h : ¬ ((k + 1) * s ≤ len)) : len / s = k := by
  have h1 := pieces_lt h0 hk
  rw [Nat.succ_mul] at h
  exact Nat.div_eq_of_lt_le (by omega) (by rw [Nat.succ_mul]; omega)
theorem range_snoc {k x : Nat} {pre : List Nat} (h : List.range k = pre ++ [x]) : k = x + 1 ∧ pre = List.range x := by
  cases k with
  | zero => simp at h
  | succ k =>
    rw [List.range_succ] at h
    obtain ⟨h1, h2⟩ := List.append_inj' h rfl
    rw [List.singleton_inj] at h2
    subst h2
    exact ⟨rfl, h1.symm⟩
theorem row_words {k : IntKind} {t : TypeId} {base : Nat} {w : World} {A : Option Addr} {n c : Nat} {xs : List Nat} (h : Row k t base w (.slice A n c) xs) : Words k w A xs := by
  obtain ⟨A', c', e, hw⟩ := h.words
  injection e with e1 e2 e3
  subst e1
  exact hw
theorem split_end {xs : List Nat} {s : Nat} (h0 : 0 < s) {B : Nat} {w W : World} {v lv : Value} {ps : List (List Nat)} (hB : Below w.heap.size w W) (hb : Blks B W v ps) (hl : ps.length = xs.length / s) (hps : ∀ j, j < xs.length / s → ps[j]? = some (chunk s xs j))
    (hlv : (lv = .slice Option.none 0 0 ∧ xs.drop (xs.length / s * s) = []) ∨ PieceAt (B + 1) W lv (xs.drop (xs.length / s * s))) : GivesSplit xs (s : Int) w (.returned (.tuple #[v, lv])) W := by
  have ek : splitK xs (s : Int) = xs.length / s := by unfold splitK; rw [if_neg (by omega)]; rfl
  have er : splitR xs (s : Int) = xs.drop (xs.length / s * s) := by unfold splitR; rw [if_neg (by omega)]; rfl
  unfold GivesSplit
  rw [ek, er]
  clear ek er
  have hR : ∃ R cr, lv = .slice R (xs.drop (xs.length / s * s)).length cr ∧ (R = Option.none → cr = 0) ∧ Words .u8 W R (xs.drop (xs.length / s * s)) := by
    rcases hlv with ⟨rfl, e⟩ | ⟨b, cap, e, hr⟩
    · rw [e]
      exact ⟨Option.none, 0, rfl, fun _ => rfl, fun i hi => absurd hi (Nat.not_lt_zero _)⟩
    · subst e
      exact ⟨_, cap, rfl, (fun e => by cases e), row_words hr⟩
  obtain ⟨R, cr, rfl, hn, hw⟩ := hR
  obtain ⟨cs, hr, hp⟩ := hb.row
  have hcl : cs.length = ps.length := by have := hr.1; omega
  rcases hr.2 with ⟨rfl, e0⟩ | ⟨g, cap, cur, rfl, _, hg, _⟩
  · rw [hl] at e0
    exact ⟨Option.none, 0, R, cr, by rw [e0], fun j hj => by omega, hn, hw, hB⟩
  · refine ⟨some ⟨g, 0, Option.none⟩, cap, R, cr, by rw [← hl], fun j hj => ?_, hn, hw, hB⟩
    obtain ⟨c, hc⟩ : ∃ c, cs[j]? = some c := ⟨cs[j]'(by omega), List.getElem?_eq_getElem (by omega)⟩
    obtain ⟨b, cap', rfl, hrow⟩ := hp j c _ hc (hps j hj)
    have hcell := hr.cells (g := g) rfl j _ hc
    have hadd : (⟨g, 0, Option.none⟩ : Addr).add j = ⟨g, 0 + j, Option.none⟩ := by unfold Addr.add; split <;> simp_all
    rw [hadd, chunk_length s xs j hj] at hcell
    rw [chunk_length s xs j hj] at hrow
    exact ⟨g, 0, b, 0, cap', rfl, hcell, row_words hrow⟩
set_option maxRecDepth 20000 in
set_option maxHeartbeats 1000000 in
theorem split_low (A : Option Addr) (c : Nat) (xs : List Nat) (hs : xs.length ≤ 600) (m : Int) (h0 : -9223372036854775808 ≤ m) (hm : m < 1) (w : World) (hw : Words .u8 w A xs) :
    Calls Try.prog 14 #[.slice A xs.length c, .int .i64 m] w (GivesSplit xs m w) := by
  have HC := Lib.hid (fun W hW => bclone_any A c xs (by omega) W hW)
  have ek : splitK xs m = 0 := if_pos hm
  have er : splitR xs m = xs := if_pos hm
  unfold GivesSplit
  rw [ek, er]
  clear ek er
  have HB := (Below.refl w.heap.size w).alloc (Nat.le_refl _) (.cells #[.int .i64 m] 3)
  have HW := Lib.hid (hw.below HB (Nat.le_refl _))
  have HB1 := Lib.hid HB
  clear HB hw
  go_enter Try.func14, Try.ntmps14
  go_wp2
  go_step3
  go_wp2_with fail
  refine (HC.out _ HW.out).mono ?_
  rintro e w1 ⟨A1, c1, rfl, hr1, hw1, hb1⟩
  have HB2 := Lib.hid (HB1.out.trans (hb1.mono (by simp)))
  have HN : Hid (A1 = Option.none → c1 = 0) := fun e => by subst e; exact Gives.nilP hr1
  have HW1 := Lib.hid hw1
  clear hb1 HB1 hr1 hw1
  go_wp2
  try rw [Exit.noGoto_ret]
  go_ret2
  exact ⟨Option.none, 0, A1, c1, rfl, fun j hj => absurd hj (Nat.not_lt_zero _), HN.out, HW1.out, HB2.out⟩
set_option maxRecDepth 100000 in
set_option maxHeartbeats 4000000 in
theorem split_main (A : Option Addr) (c : Nat) (xs : List Nat) (hx : AllLt 256 xs) (hlc : xs.length ≤ c) (hcm : c ≤ maxLen) (hs : xs.length ≤ 600) (s : Nat) (h0 : 0 < s) (h1 : s ≤ 9223372036854775807) (w : World) (hw : Words .u8 w A xs) :
    Calls Try.prog 14 #[.slice A xs.length c, .int .i64 (s : Int)] w (GivesSplit xs s w) := by
  have hi8 : (Try.prog.info? 26).map (fun i => (i.zero, i.size, i.bytes)) = some (some (.slice Option.none 0 0), 1, 24) := by kernel_rfl
  obtain ⟨j0, hj0, hy0, hy1, hy2⟩ : ∃ i, Try.prog.info? 26 = some i ∧ i.zero = some (.slice Option.none 0 0) ∧ i.size = 1 ∧ i.bytes = 24 := by
    cases hi : Try.prog.info? 26 with
    | none => rw [hi] at hi8; cases hi8
    | some i =>
      rw [hi] at hi8
      simp only [Option.map_some, Option.some.injEq, Prod.mk.injEq] at hi8
      exact ⟨i, rfl, hi8.1, hi8.2.1, hi8.2.2⟩
  clear hi8
  obtain ⟨q, hq⟩ : ∃ q, q = xs.length / s := ⟨_, rfl⟩
  have hq1 : q ≤ xs.length := hq ▸ Nat.div_le_self _ _
  have hmk := run_make (P := Try.prog) (w.alloc (.cells #[.int .i64 (s : Int)] 3)) 33 26 j0 (.slice Option.none 0 0) Try.underlying33 hj0 hy0 .i64 .i64 0 (q : Int) (by omega) (by omega) (by rw [hy2]; omega) (by omega)
  rw [hy1, Nat.mul_one] at hmk
  rw [World.size_alloc, Int.toNat_natCast] at hmk
  have hlt1 : ((s : Int) < 1) = False := by simp; omega
  have hd0 : ((s : Int) = 0) = False := by simp; omega
  have hdiv : (xs.length : Int).tdiv (s : Int) = (q : Int) := by rw [hq, Int.tdiv_eq_ediv_of_nonneg (by omega)]; rfl
  refine (callsIn_wide (n := 4)).1 ?_
  refine callsIn_of_wp_marks Try.func14 rfl trivial ?_ rfl
  simp only [Try.ntmps14, List.size_toArray, List.length_cons, List.length_nil, Nat.reduceAdd, Nat.reduceSub, Array.replicate_succ, Array.replicate_zero, List.push_toArray, List.append_toArray, List.nil_append, List.cons_append]
  have HQ := Lib.hid hq
  clear hq
  gi_wp2
  refine wpIn_scopeW ?_
  gi_wp2
  refine wpIn_label ?_
  gi_wp2_with (refine ⟨trivial, ?_⟩; gi_at_call 24; refine (callsIn_wide.2 (chunk_any _ _ _ s (by omega) (by omega) _)).mono ?_; rintro e w' ⟨rfl, rfl⟩)
  have hB01 : Below w.heap.size w (w.alloc (.cells #[.int .i64 (s : Int)] 3)) := (Below.refl _ w).alloc (Nat.le_refl _) _
  have hs1 : (w.alloc (.cells #[.int .i64 (s : Int)] 3)).heap.size = w.heap.size + 1 := by simp
  have hc0 := (Boxed.new w 3 (.int .i64 (s : Int))).cell
  clear hmk hlt1 hd0 hdiv
  generalize w.alloc (.cells #[.int .i64 (s : Int)] 3) = w1 at *
  have hrow := World.ownsRow_made (base := w.heap.size + 1) (e := 26) (size := 1) w1 (madeCells #[Value.slice Option.none 0 0] q) q (by omega) (by unfold maxLen; omega) (by rw [size_madeCells]; simp)
  rw [hs1] at hrow
  have hsz2 : (w1.alloc (.cells (madeCells #[Value.slice Option.none 0 0] q) 26)).heap.size = w.heap.size + 2 := by simp [hs1]
  have hb2 : Below (w.heap.size + 1) w1 (w1.alloc (.cells (madeCells #[Value.slice Option.none 0 0] q) 26)) := (Below.refl _ w1).alloc (by omega) _
  generalize w1.alloc (.cells (madeCells #[Value.slice Option.none 0 0] q) 26) = w2 at *
  have bB := Boxed.new w2 33 (.slice (some ⟨w.heap.size + 1, 0, Option.none⟩) 0 q)
  replace hrow := hrow.alloc (.cells #[.slice (some ⟨w.heap.size + 1, 0, Option.none⟩) 0 q] 33)
  have hb3 := hb2.alloc (by omega) (.cells #[.slice (some ⟨w.heap.size + 1, 0, Option.none⟩) 0 q] 33)
  have hsz3 : (w2.alloc (.cells #[.slice (some ⟨w.heap.size + 1, 0, Option.none⟩) 0 q] 33)).heap.size = w.heap.size + 3 := by simp [hsz2]
  rw [hsz2] at bB
  generalize w2.alloc (.cells #[.slice (some ⟨w.heap.size + 1, 0, Option.none⟩) 0 q] 33) = w3 at *
  have bL := Boxed.new w3 26 (.slice Option.none 0 0)
  replace hrow := hrow.alloc (.cells #[.slice Option.none 0 0] 26)
  replace bB := bB.alloc (.cells #[.slice Option.none 0 0] 26)
  have hb4 := hb3.alloc (by omega) (.cells #[.slice Option.none 0 0] 26)
  have hsz4 : (w3.alloc (.cells #[.slice Option.none 0 0] 26)).heap.size = w.heap.size + 4 := by simp [hsz3]
  rw [hsz3] at bL
  generalize w3.alloc (.cells #[.slice Option.none 0 0] 26) = w4 at *
  have bS := Boxed.new w4 26 (.slice A xs.length c)
  replace hrow := hrow.alloc (.cells #[.slice A xs.length c] 26)
  replace bB := bB.alloc (.cells #[.slice A xs.length c] 26)
  replace bL := bL.alloc (.cells #[.slice A xs.length c] 26)
  have hb5 := hb4.alloc (by omega) (.cells #[.slice A xs.length c] 26)
  have hsz5 : (w4.alloc (.cells #[.slice A xs.length c] 26)).heap.size = w.heap.size + 5 := by simp [hsz4]
  rw [hsz4] at bS
  generalize w4.alloc (.cells #[.slice A xs.length c] 26) = w5 at *
  have bN := Boxed.new w5 3 (.int .i64 (s : Int))
  replace hrow := hrow.alloc (.cells #[.int .i64 (s : Int)] 3)
  replace bB := bB.alloc (.cells #[.int .i64 (s : Int)] 3)
  replace bL := bL.alloc (.cells #[.int .i64 (s : Int)] 3)
  replace bS := bS.alloc (.cells #[.int .i64 (s : Int)] 3)
  have hb6 := hb5.alloc (by omega) (.cells #[.int .i64 (s : Int)] 3)
  have hsz6 : (w5.alloc (.cells #[.int .i64 (s : Int)] 3)).heap.size = w.heap.size + 6 := by simp [hsz5]
  rw [hsz5] at bN
  generalize w5.alloc (.cells #[.int .i64 (s : Int)] 3) = w6 at *
  have hinv0 : Inv w.heap.size (.slice A xs.length c) (.int .i64 (s : Int)) w1 w6 [] (.slice Option.none 0 0) :=
    ⟨⟨_, bB, Blks.none hrow (fun k e => by simp [Value.ownBlock] at e; exact .inl e.symm)⟩, bL, bS, bN, hb6⟩
  clear hrow bB bL bS bN hb2 hb3 hb4 hb5 hsz2 hsz3 hsz4 hsz5
  have hs1' : w.heap.size + 1 ≤ w1.heap.size := by omega
  obtain ⟨Q, hQ⟩ : ∃ Q, Q = piecesN xs.length s := ⟨_, rfl⟩
  refine wpIn_rangeFunc_ownG rfl (by omega) (gf := 30) (lb := #[.pointer (some ⟨w.heap.size + 4, 0, Option.none⟩), .pointer (some ⟨w.heap.size + 5, 0, Option.none⟩)]) rfl trivial (enters_of Try.func30 (by kernel_rfl) rfl)
    (chunkg_stops 3 (by omega) (w.heap.size + 4) (w.heap.size + 5) w.heap.size A c s xs.length h0 h1 hlc hcm (by omega) (fun h => by obtain ⟨b, o, e, _⟩ := hw.block (i := 0) h; exact ⟨b, o, e⟩) w6 hinv0.src.cell hinv0.num.cell)
    (fun h k => h.trans k) (keep_b (by omega) (by simp [hsz6])) (Below.refl _ _) (fun _ => rfl)
    (fun pre W => Inv w.heap.size (.slice A xs.length c) (.int .i64 (s : Int)) w1 W (pre.map fun x => chunk s xs (min x (piecesN xs.length s - 1))) (.slice Option.none 0 0) ∧ ∀ x ∈ pre, (min x (piecesN xs.length s - 1) + 1) * s ≤ xs.length)
    (fun cc pre W => cc = .exit 0 ∧ ∃ pre' x lv, pre = pre' ++ [x] ∧ (∀ x ∈ pre', (min x (piecesN xs.length s - 1) + 1) * s ≤ xs.length) ∧ ¬ ((min x (piecesN xs.length s - 1) + 1) * s ≤ xs.length) ∧
      Inv w.heap.size (.slice A xs.length c) (.int .i64 (s : Int)) w1 W (pre'.map fun x => chunk s xs (min x (piecesN xs.length s - 1))) lv ∧ PieceAt (w.heap.size + 1) W lv (xs.drop (min x (piecesN xs.length s - 1) * s)))
    (OwnFrom.and (Inv.own (fun pre : List Nat => pre.map fun x => chunk s xs (min x (piecesN xs.length s - 1))) _ hs1' (by omega)) (fun _ _ _ _ h _ _ => h))
    (fun cc pre X Y row h hg hr => by
      obtain ⟨e, pre', x, lv, e1, e2, e3, hi, hp⟩ := h
      exact ⟨e, pre', x, lv, e1, e2, e3, hi.kept hs1' hg (fun r er => ⟨by have := (hr r er).1; omega, (hr r er).2⟩), hp.keptO hg (fun r er => (hr r er).2)⟩)
    ⟨hinv0, fun x hx => absurd hx (by simp)⟩
    (fun x => { tmps := #[.slice A xs.length c, .int .i64 (s : Int), undef, .pointer (some ⟨w.heap.size, 0, Option.none⟩), .slice Option.none 0 0, .slice Option.none 0 0,
      .pointer (some ⟨w.heap.size + 1 + 1, 0, Option.none⟩), .pointer (some ⟨w.heap.size + 1 + 1 + 1, 0, Option.none⟩), pieceG A xs.length s (min x (piecesN xs.length s - 1)), .int .i64 (s : Int), .bool false, undef, undef,
      .slice A xs.length c, .int .i64 (xs.length : Int), .int .i64 (s : Int), .int .i64 (q : Int), .slice (some ⟨w.heap.size + 1, 0, Option.none⟩) 0 q, .slice A xs.length c, .int .i64 (s : Int),
      .func (.func 30) #[] #[.pointer (some ⟨w.heap.size + 1 + 1 + 1 + 1, 0, Option.none⟩), .pointer (some ⟨w.heap.size + 1 + 1 + 1 + 1 + 1, 0, Option.none⟩)],
      pieceG A xs.length s (min x (piecesN xs.length s - 1)), undef, undef, undef, undef, undef, undef, undef, undef, undef, undef, undef, undef, undef, undef], defers := [] }) ?assign ?body ?done ?stop
  case assign =>
    intro l x W K hK
    gi_wp2
    exact hK
  case body =>
    rintro l pre x W ⟨hinv, hfull⟩ hlt
    obtain ⟨k, hk⟩ : ∃ k, k = min x (piecesN xs.length s - 1) := ⟨_, rfl⟩
    have hkQ : k < piecesN xs.length s := by omega
    have hkl := pieces_lt h0 hkQ
    have hwW : Words .u8 W A xs := hw.below (hB01.trans (hinv.below.mono (Nat.le_succ _))) (Nat.le_refl _)
    obtain ⟨b, o, rfl, -, -⟩ := hw.block (i := 0) (by omega)
    obtain ⟨v, hv, hbk⟩ := hinv.blocks
    obtain ⟨cs, hrow, hps⟩ := hbk.row
    have hcB := hv.cell
    have hcS := (hinv.below.cell (p := ⟨w.heap.size, 0, Option.none⟩) (Nat.lt_succ_self _)).trans hc0
    have hsW : w.heap.size + 1 ≤ W.heap.size := Nat.le_trans hs1' hinv.below.size
    have hpl : (pre.map fun x => chunk s xs (min x (piecesN xs.length s - 1))).length + 1 ≤ 600 := by
      rw [List.length_map]
      have h2 := Nat.le_mul_of_pos_right (piecesN xs.length s - 1) h0
      have h3 := pieces_lt (len := xs.length) (m := s) (k := piecesN xs.length s - 1) h0 (by omega)
      omega
    have HP : Hid (((pre ++ [x]).map fun x => chunk s xs (min x (piecesN xs.length s - 1))) = (pre.map fun x => chunk s xs (min x (piecesN xs.length s - 1))) ++ [chunk s xs k]) := by unfold Hid; rw [List.map_append, List.map_singleton, ← hk]
    have HK := Lib.hid hk
    have HF := Lib.hid hfull
    rw [← hk]
    clear hfull hlt
    by_cases hfu : (k + 1) * s ≤ xs.length
    · have hks : k < xs.length / s := (Nat.le_div_iff_mul_le h0).2 hfu
      have hcl := chunk_length s xs k hks
      have hs6 : s ≤ 600 := by have := Nat.le_mul_of_pos_left s (show 0 < k + 1 by omega); omega
      have HG := Lib.hid (bclone_any (some ⟨b, o + k * s, Option.none⟩) s (chunk s xs k) (by omega) W.drew (words_piece hwW _ s hks))
      rw [hcl] at HG
      have hpv : pieceG (some ⟨b, o, Option.none⟩) xs.length s k = .slice (some ⟨b, o + k * s, Option.none⟩) s s := by
        unfold pieceG
        rw [Nat.min_eq_left (by rw [Nat.succ_mul] at hfu; omega)]
        rfl
      rw [hpv]
      have HFU := Lib.hid hfu
      clear hpv hk hkQ hkl hwW hw hx hfu hks hinv0
      generalize (pre.map fun x => chunk s xs (min x (piecesN xs.length s - 1))) = ps at *
      generalize chunk s xs k = p at *
      generalize k * s = off at *
      have hmx : Try.prog.follows .mixedOrders = true := by kernel_rfl
      have hse : ((s : Int) == (s : Int)) = true := by simp
      have HI := Lib.hid hinv
      have HR := Lib.hid hrow
      have HPS := Lib.hid hps
      have HA := Lib.hid hbk.apart
      clear hinv hrow hps hbk
      gi_wp2
      gi_region_with_o (refine ⟨trivial, ?_⟩; gi_at_call 23; refine (CallsIn.inRound l (callsIn_wide.2 HG.out)).mono ?_; rintro e w2 hgv; obtain ⟨g, c1, rfl, hpc, hb2⟩ := gives_piece hgv (.inr rfl) (by omega) hsW; rw [hcl] at hpc ⊢; have hc2 := (boxed_below hv hb2).cell; have hl2 := (boxed_below hv hb2).lt; obtain ⟨v', w3, hrun, hown', hgrow, _, hat⟩ := run_append_own_at (P := Try.prog) (w2.alloc (.cells #[.slice (some ⟨g, 0, Option.none⟩) s c1] 26)) (w.heap.size + 1) 33 33 26 j0 (.slice Option.none 0 0) 1 24 Try.underlying33 hj0 hy0 hy1 hy2 rfl (by decide) v ps.length cs ((ownsRow_belowP HR.out hb2).alloc _) ⟨w2.heap.size, 0, Option.none⟩ 1 1 [.slice (some ⟨g, 0, Option.none⟩) s c1] rfl (cell_one_new _ _ _) (by simp [Value.oneCell']) (by unfold maxLen; omega) (by omega) (by have := hb2.size; simp; omega); rw [append_hide] at hrun; obtain ⟨g', cap', rfl⟩ := ownsRow_succ hown'; have hS := Lib.hid (Inv.step (B' := w6.heap.size) HI.out hs1' hv HR.out HPS.out HA.out hb2 hpc hown' hgrow hat); have hc3 := hS.out.1.cell; have hf3 := hS.out.1.frozen; clear hgv hpc hown' hgrow hat)
      all_goals gi_wp2
      all_goals
        obtain ⟨-, s1, s2, s3⟩ := hS.out
        refine ⟨s1, s2, ?_, ?_⟩
        · rw [HP.out]
          exact s3
        · intro y hy
          rcases List.mem_append.1 hy with hy | hy
          · exact HF.out y hy
          · rw [List.mem_singleton] at hy
            rw [hy, ← HK.out]
            exact HFU.out
    · have hkS : xs.length - k * s < s := by rw [Nat.succ_mul] at hfu; omega
      have hcl : (xs.drop (k * s)).length = xs.length - k * s := List.length_drop
      have HG := Lib.hid (bclone_any (some ⟨b, o + k * s, Option.none⟩) (xs.length - k * s) (xs.drop (k * s)) (by omega) W (words_dropP hwW _))
      rw [hcl] at HG
      have hpv : pieceG (some ⟨b, o, Option.none⟩) xs.length s k = .slice (some ⟨b, o + k * s, Option.none⟩) (xs.length - k * s) (xs.length - k * s) := by
        unfold pieceG
        rw [Nat.min_eq_right (by omega)]
        rfl
      rw [hpv]
      have HFU := Lib.hid hfu
      have hpos : 0 < xs.length - k * s := by omega
      have HD := Lib.hid (congrArg (fun k => xs.drop (k * s)) hk)
      clear hpv hk hkQ hkl hwW hw hx hfu hinv0
      generalize hp : xs.drop (k * s) = p at *
      generalize xs.length - k * s = n at *
      generalize k * s = off at *
      have hne : ((n : Int) == (s : Int)) = false := by simp; omega
      have HI := Lib.hid hinv
      have hl3 := hinv.left
      clear hinv hrow hps hbk
      gi_wp2_with (refine ⟨trivial, ?_⟩; gi_at_call 23; refine (CallsIn.inRound l (callsIn_wide.2 HG.out)).mono ?_; rintro e w2 hgv; obtain ⟨g, c1, rfl, hpc, hb2⟩ := gives_piece hgv (.inl rfl) (by omega) hsW; have hS := Lib.hid (Inv.leave (B' := w6.heap.size) HI.out hs1' hb2 hpc); rw [hcl] at hS ⊢; have hc3 := (boxed_below hl3 hb2).cell; have hf3 := (boxed_below hl3 hb2).frozen; clear hgv hpc)
      obtain ⟨s1, s2, s3⟩ := hS.out
      refine ⟨s1, rfl, pre, x, _, rfl, HF.out, ?_, s2, ?_⟩
      · rw [← HK.out]; exact HFU.out
      · rw [← HD.out]; exact s3
  case done =>
    rintro D ys W hD rfl ⟨hinv, hfull⟩ hK
    obtain ⟨p1, p2⟩ := pieces_whole h0 hfull
    have hmx : Try.prog.follows .mixedOrders = true := by kernel_rfl
    obtain ⟨v, hv, hbk⟩ := hinv.blocks
    have hcB := hv.cell
    have hcL := hinv.left.cell
    have hBW : Below w.heap.size w W := hB01.trans (hinv.below.mono (Nat.le_succ _))
    have HE : Hid (∀ n, GivesSplit xs (s : Int) w (.returned (.tuple #[v, .slice Option.none 0 0])) ((W.drewN n).putObj D (.deferred Option.none))) := fun n =>
      split_end h0 ((hBW.drewN n).trans (belowK_b (w := w) (Nat.le_refl _) (W.drewN n) D _ _ (by omega) hK rfl rfl)) ((hbk.keptO (grownBy_drewN W n) (fun r e => by cases e)).keptO (grownBy_putObj' (W.drewN n) D (.deferred Option.none)) (fun r e => by cases e; exact ⟨_, hK, rfl⟩))
        (by rw [List.length_map, List.length_range, p1]) (fun j hj => by rw [p1] at hj; rw [List.getElem?_map, List.getElem?_range hj, Option.map_some, Nat.min_eq_left (by omega)])
        (.inl ⟨rfl, by rw [p1, p2]; exact List.drop_eq_nil_of_le (Nat.le_refl _)⟩)
    clear hinv hinv0 hfull hw hx hbk hv hBW
    gi_wp2
    gi_big_quiet_th_o (fail)
    gi_wp2
    refine ⟨by simp, .inl ⟨_, _, rfl, run_takeDeferred hK, ?_⟩⟩
    refine ⟨_, results_tmp2 (t := 4) (u := 5) rfl _ _ _, ?_⟩
    exact HE.out _
  case stop =>
    rintro D cc pre W hD ⟨k, hk, rfl⟩ ⟨rfl, pre', x, lv, e1, e2, e3, hinv, hp⟩ hK
    obtain ⟨rfl, rfl⟩ := range_snoc e1
    have hm : min x (piecesN xs.length s - 1) = x := Nat.min_eq_left (by omega)
    rw [hm] at e3 hp
    have p1 := pieces_short h0 (by omega) e3
    have hmx : Try.prog.follows .mixedOrders = true := by kernel_rfl
    obtain ⟨v, hv, hbk⟩ := hinv.blocks
    have hcB := hv.cell
    have hcL := hinv.left.cell
    have hBW : Below w.heap.size w W := hB01.trans (hinv.below.mono (Nat.le_succ _))
    have HE : Hid (∀ n, GivesSplit xs (s : Int) w (.returned (.tuple #[v, lv])) ((W.drewN n).putObj D (.deferred Option.none))) := fun n =>
      split_end h0 ((hBW.drewN n).trans (belowK_b (w := w) (Nat.le_refl _) (W.drewN n) D _ _ (by omega) hK rfl rfl)) ((hbk.keptO (grownBy_drewN W n) (fun r e => by cases e)).keptO (grownBy_putObj' (W.drewN n) D (.deferred Option.none)) (fun r e => by cases e; exact ⟨_, hK, rfl⟩))
        (by rw [List.length_map, List.length_range, p1]) (fun j hj => by rw [p1] at hj; rw [List.getElem?_map, List.getElem?_range hj, Option.map_some, Nat.min_eq_left (by omega)])
        (.inr (by rw [p1]; exact (hp.keptO (grownBy_drewN W n) (fun r e => by cases e)).keptO (grownBy_putObj' (W.drewN n) D (.deferred Option.none)) (fun r e => by cases e; exact ⟨_, hK, rfl⟩)))
    clear hinv hinv0 hw hx hbk hv hBW e1 e2 e3 hp
    gi_wp2
    gi_big_quiet_th_o (fail)
    gi_wp2
    refine ⟨by simp, .inl ⟨_, _, rfl, run_takeDeferred hK, ?_⟩⟩
    refine ⟨_, results_tmp2 (t := 4) (u := 5) rfl _ _ _, ?_⟩
    exact HE.out _
theorem split_any : SplitC := by
  intro A c xs hx hlc hcm hs m h0 h1 w hw
  by_cases hm : m < 1
  · exact split_low A c xs hs m h0 hm w hw
  · obtain ⟨s, rfl⟩ := Int.eq_ofNat_of_zero_le (show 0 ≤ m by omega)
    exact split_main A c xs hx hlc hcm hs s (by omega) (by omega) w hw
end Go.Proofs.Ytpmnikcohadlmaa
