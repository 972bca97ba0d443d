/- Layer 8: the law on chains. -/
import Derived.Test.YtnihakjlfbhhiaaDoorLawwideb
import Derived.Test.YtnihakjlfbhhiaaDoorGrowb
import Derived.Deep.CutRange
namespace Go.Proofs.YtnihakjlfbhhiaaDoor.L64
open Go.RowKit
set_option linter.unusedVariables false
set_option linter.unusedSimpArgs false
attribute [local go_sem ↓] eql8 eql80
/-- Bytes of an array. -/
def ofF (n : Nat) (f : Nat → Nat) : List Nat := (List.range n).map f
theorem ofF_length (n : Nat) (f : Nat → Nat) : (ofF n f).length = n := by simp [ofF]
theorem ofF_lt {n M : Nat} {f : Nat → Nat} (h : ∀ i, f i < M) : AllLt M (ofF n f) := fun x hx => by
  obtain ⟨i, _, rfl⟩ := List.mem_map.1 hx
  exact h i
theorem ofF_cells (n : Nat) (f : Nat → Nat) : (tab n fun i => .int .u8 (f i : Nat)) = (cellsOf .u8 (ofF n f)).toArray := by
  unfold tab ofF cellsOf; rw [List.map_map]; rfl
theorem chain_two (v : Nat → Nat) (ya yb : List Nat) (ha : ya.length = 128) (hb : yb.length = 128) : blocksN (ya ++ yb) v ((ya ++ yb).length / 128) = blocksN yb (blocksN ya v (ya.length / 128)) (yb.length / 128) := by
  rw [List.length_append, ha, hb]
  have h1 := blocksN_take (ya ++ yb) v 1 1 (Nat.le_refl _)
  have h2 := blocksN_drop (ya ++ yb) v 1 1
  rw [Nat.one_mul, List.take_left' ha] at h1
  rw [Nat.one_mul, List.drop_left' ha] at h2
  show blocksN (ya ++ yb) v 2 = blocksN yb (blocksN ya v 1) 1
  rw [h1, h2]
/-- What a chain holds: the value, and both blocks' bytes. -/
structure R3 (w W : World) (a : Nat) (u : Array Value) (ya yb : List Nat) : Prop where
  below : Below w.heap.size w W
  one : RowOk W a 8 ∧ rowAt W a = u
  two : Words .u8 W (some ⟨a + 1, 0, none⟩) ya
  three : Words .u8 W (some ⟨a + 2, 0, none⟩) yb
  size : a + 3 ≤ W.heap.size
theorem words_of_below {k : IntKind} {w w' : World} {b o B : Nat} {xs : List Nat} (h : Words k w (some ⟨b, o, none⟩) xs) (hb : Below B w w') (hB : b < B) : Words k w' (some ⟨b, o, none⟩) xs := fun i hi => by
  obtain ⟨b', o', e, hc⟩ := h i hi
  refine ⟨b', o', e, (hb.cell (p := ⟨b', o' + i, none⟩) ?_).trans hc⟩
  injection e with e
  injection e with e _ _
  rw [← e]; exact hB
theorem R3.past {w W W' : World} {a : Nat} {u : Array Value} {ya yb : List Nat} (h : R3 w W a u ya yb) (hb : Below (a + 3) W W') (ha : a = w.heap.size) : R3 w W' a u ya yb := by
  refine ⟨h.below.trans (hb.mono (by omega)), ⟨h.one.1.below hb (by omega), ?_⟩, words_of_below h.two hb (by omega), words_of_below h.three hb (by omega), Nat.le_trans h.size hb.size⟩
  rw [← h.one.2]; unfold rowAt; rw [hb.block _ (by omega)]
theorem row_words {k : IntKind} {t : TypeId} {base : Nat} {W : World} {g n cap : Nat} {xs : List Nat} (h : Row k t base W (.slice (some ⟨g, 0, none⟩) n cap) xs) : Words k W (some ⟨g, 0, none⟩) xs ∧ xs.length ≤ cap ∧ cap ≤ maxLen := by
  have h' := h
  obtain ⟨A, c, e, hw⟩ := h.words
  injection e with e1 e2 e3
  subst e1
  refine ⟨hw, ?_⟩
  obtain ⟨hl, ⟨e0, _⟩ | ⟨g1, cap1, cur, hv, hbg, hgw, hnc, hcm, hsz, htk⟩⟩ := h'
  · cases e0
  · injection hv with _ q2 q3
    subst q3
    exact ⟨hnc, hcm⟩
theorem R3.call {w W W' : World} {a : Nat} {u : Array Value} {ya yb : List Nat} (h : R3 w W a u ya yb) (hb : Below W.heap.size W W') : R3 w W' a u ya yb :=
  ⟨h.below.trans (hb.mono h.below.size), row_below h.one hb, h.two.below hb (Nat.le_refl _), h.three.below hb (Nat.le_refl _), Nat.le_trans h.size hb.size⟩
theorem R3.alloc {w W : World} {a : Nat} {u : Array Value} {ya yb : List Nat} (h : R3 w W a u ya yb) (o : Obj) : R3 w (W.alloc o) a u ya yb := h.call ((Below.refl _ _).alloc (Nat.le_refl _) o)
/-- .. and the value with both. -/
structure R4 (w W : World) (a : Nat) (u : Array Value) (ya yb : List Nat) (b : Nat) (x : Array Value) : Prop where
  base : R3 w W a u ya yb
  there : RowOk W b 8
  cells : rowAt W b = x
theorem R4.call {w W W' : World} {a : Nat} {u : Array Value} {ya yb : List Nat} {b : Nat} {x : Array Value} (h : R4 w W a u ya yb b x) (hb : Below W.heap.size W W') : R4 w W' a u ya yb b x :=
  ⟨h.base.call hb, (row_below ⟨h.there, rfl⟩ hb).1, ((row_below ⟨h.there, rfl⟩ hb).2).trans h.cells⟩
theorem keeps_rows {W W' : World} (hb : Below W.heap.size W W') (n k : Nat) (h : RowOk W n k) : RowOk W' n k := h.below hb h.lt
theorem keeps_others {W W' : World} {g : Nat} (ho : ∀ n, n < W.heap.size → n ≠ g → W'.heap[n]? = W.heap[n]?) (n k : Nat) (hn : n ≠ g) (h : RowOk W n k) : RowOk W' n k := by
  have hl := h.lt
  obtain ⟨c, t, hg, hs⟩ := h
  exact ⟨c, t, (ho n hl hn).trans hg, hs⟩
theorem row_of_owns {t : TypeId} {W w9 : World} {g cap B : Nat} {ya : List Nat} (h : w9.ownsRow W.heap.size t 1 (.slice (some ⟨g, 0, none⟩) (0 + 128) cap) (0 + 128) ([] ++ cellsOf .u8 ya)) (hl : ya.length = 128) (hB : B ≤ W.heap.size) : Row .u8 t B w9 (.slice (some ⟨g, 0, none⟩) 128 cap) ya := by
  refine Row.mono (b := W.heap.size) ?_ hB
  unfold Row
  rw [hl]
  exact h
set_option maxRecDepth 20000 in
set_option maxHeartbeats 1000000 in
theorem wideChains_core (w : World) (ht : SigTabs w) (hkt : KTab w) (f X V : Nat → Nat) (ya yb : List Nat) (hla : ya.length = 128) (hlb : yb.length = 128) (ca cb : Array Value)
    (HS0 : Hid (R3 w (((w.alloc (.cells (uTab 8 f) 31)).alloc (.cells ca 36)).alloc (.cells cb 36)) w.heap.size (uTab 8 f) ya yb))
    (HPB : Hid (∀ W A c, R3 w W w.heap.size (uTab 8 f) ya yb → Words .u8 W A (ya ++ yb) → 256 ≤ c → c ≤ maxLen → Calls Tryd.prog 12 #[.agg (uTab 8 f), .slice A 256 c] W fun y w' => y = .returned (.agg (uTab 8 X)) ∧ Below W.heap.size W w')) (HPA : Hid (∀ W, R3 w W w.heap.size (uTab 8 f) ya yb → Calls Tryd.prog 12 #[.agg (uTab 8 f), .slice (some ⟨w.heap.size + 1, 0, none⟩) 128 128] W fun y w' => y = .returned (.agg (uTab 8 V)) ∧ Below W.heap.size W w')) (HPA2 : Hid (∀ W, R3 w W w.heap.size (uTab 8 f) ya yb → Calls Tryd.prog 12 #[.agg (uTab 8 V), .slice (some ⟨w.heap.size + 1 + 1, 0, none⟩) 128 128] W fun y w' => y = .returned (.agg (uTab 8 X)) ∧ Below W.heap.size W w')) (HQA : Hid (∀ W, R3 w W w.heap.size (uTab 8 f) ya yb → Calls Tryd.prog 13 #[.agg (uTab 8 f), .slice (some ⟨w.heap.size + 1, 0, none⟩) 128 128] W fun y w' => y = .returned (.agg (uTab 8 V)) ∧ Below W.heap.size W w')) (HQA2 : Hid (∀ W, R3 w W w.heap.size (uTab 8 f) ya yb → Calls Tryd.prog 13 #[.agg (uTab 8 V), .slice (some ⟨w.heap.size + 1 + 1, 0, none⟩) 128 128] W fun y w' => y = .returned (.agg (uTab 8 X)) ∧ Below W.heap.size W w')) :
    Calls Tryd.prog 6 #[.agg (uTab 8 f), .agg ca, .agg cb] w fun e w' => e = .returned (.bool true) ∧ Below w.heap.size w w' := by
  have HW := Lib.hid (fun W h1 h2 => wakes_any W h1 h2)
  have hi8 : (Tryd.prog.info? 5).map (fun i => (i.zero, i.size, i.bytes)) = some (some (.int .u8 0), 1, 1) := by kernel_rfl
  obtain ⟨i0, hi0, hz0, hz1, hz2⟩ := info_parts8 hi8
  go_enter Tryd.func6, Tryd.ntmps6
  go_wp2_with fail
  refine (HW.out _ (ht.below HS0.out.below) (hkt.below HS0.out.below (Nat.le_refl _))).mono ?_
  rintro e w1 ⟨rfl, hb1⟩
  have S1 := HS0.out.call hb1
  clear HS0 hb1 HW hi8
  have C1 : ∀ W, R3 w W w.heap.size (uTab 8 f) ya yb → RowOk W w.heap.size 8 := fun W h => h.one.1
  have C2 : ∀ W, R3 w W w.heap.size (uTab 8 f) ya yb → rowAt W w.heap.size = uTab 8 f := fun W h => h.one.2
  go_wp2
  go_cut [7] from 10 to 16 (fun p wc => ∃ b, p = .pointer (some ⟨b, 0, none⟩) ∧ R4 w wc w.heap.size (uTab 8 f) ya yb b (uTab 8 X))
  case first =>
    have hs1 : w.heap.size + 3 ≤ w1.heap.size := S1.size
    go_region_held3 (fun W => R3 w W w.heap.size (uTab 8 f) ya yb)
      (first | exact S1.call ((Below.refl _ _).drewN 1) | assumption | exact R3.alloc (by assumption) _ | exact R3.call (by assumption) hq9 | exact R3.past (by assumption) hb8 rfl | exact hU3 | exact hV3 | exact R3.alloc hU3 _ | fail)
      (first
        | (refine step_append_grows rfl (.tmp 11) (.tmp 12) 22 rfl 5 i0 (.int .u8 0) 1 1 Tryd.underlying22 hi0 hz0 hz1 hz2 rfl (by decide) (some ⟨_, 0, none⟩) 0 0 [] rfl (fun h => by cases h) rfl (fun b hb j u hj => by cases hj) ⟨w.heap.size + 1, 0, none⟩ 128 128 (cellsOf .u8 ya) rfl (by rw [cellsOf_length, hla]) (words_add (R3.two (by assumption))) (cellsOf_oneCell _ _) (by omega) (by unfold maxLen; omega) (by omega) ?_
           intro v9 w9 hown9 hgr9
           obtain ⟨g9, cap9, rfl, hb9, hlt9⟩ := World.ownsRow.form hown9 (by omega)
           have hq9 := (Below.refl _ _).grown hgr9 (Nat.le_refl _) (fun k hk => by cases hk)
           have hS9 : w.heap.size + 3 ≤ _ := R3.size (by assumption)
           have hrow9 := row_of_owns hown9 hla hS9
           have kz1 := Lib.hid (keeps_rows hq9)
           have hb9' := Lib.hid hb9
           clear hown9 hgr9 hS9 hb9)
        | (refine step_append_row2 rfl (.tmp 13) (.tmp 14) 22 rfl 5 i0 (.int .u8 0) 1 Tryd.underlying22 hi0 hz0 hz1 hz2 rfl .u8 (w.heap.size + 3) g9 128 cap9 ya rfl hla (by omega) (by first | exact hrow9 | exact hrow9.below ((Below.refl _ _).alloc (Nat.le_refl _) _) (Nat.le_refl _)) (R3.size (by assumption)) ⟨w.heap.size + 2, 0, none⟩ 128 128 yb rfl hlb (words_add (R3.three (by assumption))) (by unfold maxLen; omega) (by omega) ?_
           intro g8 cap8 w8 hrow8 hold8 hb8 ho8
           obtain ⟨hw8, hc8, hm8⟩ := row_words hrow8
           rw [List.length_append, hla, hlb] at hc8
           have hc9 : 256 ≤ cap8 := hc8
           have hs8 : w.heap.size + 3 ≤ w8.heap.size := Nat.le_trans (R3.size (by assumption)) hb8.size
           have kz2 := Lib.hid (keeps_others ho8)
           clear hrow8 hold8 ho8)
        | (go_at_call 12
           (with_reducible refine (HPB.out _ _ _ (by assumption) (by first | exact hw8 | exact hw8.below ((Below.refl _ _).alloc (Nat.le_refl _) _) (Nat.le_refl _)) hc9 hm8).mono ?_)
           rintro e u3 ⟨rfl, hq3⟩
           have hU3 := R3.call (w := w) (a := w.heap.size) (u := uTab 8 f) (ya := ya) (yb := yb) (by assumption) hq3
           have kz3 := Lib.hid (keeps_rows hq3)
           first
             | have hr7 : RowOk u3 w1.heap.size 8 := kz3.out _ _ (kz2.out _ _ (by have := hb9'.out; simp at this; omega) (kz1.out _ _ ((RowOk_drew _ _ _).2 ((RowOk_alloc_past (by simp)).2 ((RowOk_alloc_at rfl).2 rfl)))))
               have hV3 := R3.past hU3 (below_setRow (Below.refl _ _) hs1 (uTab 8 X)) rfl
             | have hr7 : RowOk u3 (w1.heap.size + 1) 8 := kz3.out _ _ (kz2.out _ _ (by have := hb9'.out; simp at this; omega) (kz1.out _ _ ((RowOk_drew _ _ _).2 ((RowOk_alloc_at (World.size_alloc _ _).symm).2 rfl))))
               have hV3 := R3.past hU3 (below_setRow (Below.refl _ _) (Nat.le_succ_of_le hs1) (uTab 8 X)) rfl
             | have hr7 : RowOk u3 w9.heap.size 8 := kz3.out _ _ (kz2.out _ _ (Nat.ne_of_gt hlt9) ((RowOk_alloc_at rfl).2 rfl))
               have hV3 := R3.past hU3 (below_setRow (Below.refl _ _) (Nat.le_trans hs1 (Nat.le_trans (by first | exact Nat.le_refl _ | (simp; done) | (have := hq9.size; simp at this; omega)) hq9.size)) (uTab 8 X)) rfl
             | have hr7 : RowOk u3 w8.heap.size 8 := kz3.out _ _ ((RowOk_alloc_at rfl).2 rfl)
               have hV3 := R3.past hU3 (below_setRow (Below.refl _ _) hs8 (uTab 8 X)) rfl
             | skip)
        | fail)
    all_goals
      go_wp2_with fail
      go_meet
      case rel =>
        first
          | exact ⟨_, rfl, ⟨hV3, (RowOk_setRow_at hr7).2 (uTab_size _ _), rowAt_setRow_at hr7⟩⟩
          | exact ⟨_, rfl, ⟨hU3.alloc _, (RowOk_alloc_at rfl).2 (uTab_size _ _), rowAt_alloc_at rfl⟩⟩
  case rest =>
  obtain ⟨b, rfl, Q0⟩ := hcut
  clear C1 C2 S1 HPB
  have C1 : ∀ W, R4 w W w.heap.size (uTab 8 f) ya yb b (uTab 8 X) → RowOk W w.heap.size 8 := fun W h => h.base.one.1
  have C2 : ∀ W, R4 w W w.heap.size (uTab 8 f) ya yb b (uTab 8 X) → rowAt W w.heap.size = uTab 8 f := fun W h => h.base.one.2
  have C3 : ∀ W, R4 w W w.heap.size (uTab 8 f) ya yb b (uTab 8 X) → RowOk W b 8 := fun W h => h.there
  have C4 : ∀ W, R4 w W w.heap.size (uTab 8 f) ya yb b (uTab 8 X) → rowAt W b = uTab 8 X := fun W h => h.cells
  go_wp2
  go_region_held3 (fun W => R4 w W w.heap.size (uTab 8 f) ya yb b (uTab 8 X))
    (first | exact Q0.call ((Below.refl _ _).drewN 1) | assumption | exact R4.call (by assumption) hq1 | exact R4.call (by assumption) hq2 | exact R4.call (by assumption) hq3 | exact R4.call (by assumption) hq4 | fail)
    (first
      | (go_at_call 12; (with_reducible refine (HPA.out _ (R4.base (by assumption))).mono ?_); rintro e u5 ⟨rfl, hq1⟩)
      | (go_at_call 12; (with_reducible refine (HPA2.out _ (R4.base (by assumption))).mono ?_); rintro e u6 ⟨rfl, hq2⟩)
      | (go_at_call 13; (with_reducible refine (HQA.out _ (R4.base (by assumption))).mono ?_); rintro e u7 ⟨rfl, hq3⟩)
      | (go_at_call 13; (with_reducible refine (HQA2.out _ (R4.base (by assumption))).mono ?_); rintro e u8 ⟨rfl, hq4⟩)
      | fail)
  have hEnd : R4 w u8 w.heap.size (uTab 8 f) ya yb b (uTab 8 X) := by assumption
  go_wp2
  go_ret
  exact ⟨rfl, hEnd.base.below⟩
theorem wideChains_walk (w : World) (ht : WideTabs w) (f : Nat → Nat) (hf : Lt64 f) (fa : Nat → Nat) (hfa : ∀ i, fa i < 256) (fb : Nat → Nat) (hfb : ∀ i, fb i < 256) :
    Calls Tryd.prog 6 #[.agg (uTab 8 f), .agg (tab 128 fun i => .int .u8 (fa i : Nat)), .agg (tab 128 fun i => .int .u8 (fb i : Nat))] w fun e w' => e = .returned (.bool true) ∧ Below w.heap.size w w' := by
  have hkt := ht.ktab
  replace ht := ht.sig
  rw [ofF_cells, ofF_cells]
  have hla := ofF_length 128 fa
  have hlb := ofF_length 128 fb
  have hxa := ofF_lt (n := 128) hfa
  have hxb := ofF_lt (n := 128) hfb
  generalize ofF 128 fa = ya at *
  generalize ofF 128 fb = yb at *
  have S0 : R3 w (((w.alloc (.cells (uTab 8 f) 31)).alloc (.cells (cellsOf .u8 ya).toArray 36)).alloc (.cells (cellsOf .u8 yb).toArray 36)) w.heap.size (uTab 8 f) ya yb := by
    refine ⟨(((Below.refl _ w).alloc (Nat.le_refl _) _).alloc (by simp) _).alloc (by simp <;> omega) _, ⟨?_, ?_⟩, ?_, ?_, by simp⟩
    · exact (RowOk_alloc_past (by simp <;> omega)).2 ((RowOk_alloc_past (by simp)).2 ((RowOk_alloc_at rfl).2 (uTab_size _ _)))
    · rw [rowAt_alloc_past (by simp <;> omega), rowAt_alloc_past (by simp), rowAt_alloc_at rfl]
    · have := words_new (w.alloc (.cells (uTab 8 f) 31)) 36 .u8 ya rfl
      rw [World.size_alloc] at this
      exact this.below ((Below.refl _ _).alloc (Nat.le_refl _) _) (Nat.le_refl _)
    · have := words_new ((w.alloc (.cells (uTab 8 f) 31)).alloc (.cells (cellsOf .u8 ya).toArray 36)) 36 .u8 yb rfl
      rw [World.size_alloc, World.size_alloc] at this
      exact this
  have PB : ∀ W A c, R3 w W w.heap.size (uTab 8 f) ya yb → Words .u8 W A (ya ++ yb) → 256 ≤ c → c ≤ maxLen → Calls Tryd.prog 12 #[.agg (uTab 8 f), .slice A 256 c] W fun y w' => y = .returned (.agg (uTab 8 (blocksN yb (blocksN ya f (ya.length / 128)) (yb.length / 128)))) ∧ Below W.heap.size W w' := fun W A c hR hw hc hm => by
    have hl : (ya ++ yb).length = 256 := by rw [List.length_append, hla, hlb]
    have := blocks_any f hf A c (ya ++ yb) (hxa.append hxb) (by omega) hm (by omega) W hw (ht.below hR.below) (hkt.below hR.below (Nat.le_refl _))
    rw [chain_two f ya yb hla hlb, hl] at this
    exact this
  have PA : ∀ W, R3 w W w.heap.size (uTab 8 f) ya yb → Calls Tryd.prog 12 #[.agg (uTab 8 f), .slice (some ⟨w.heap.size + 1, 0, none⟩) 128 128] W fun y w' => y = .returned (.agg (uTab 8 (blocksN ya f (ya.length / 128)))) ∧ Below W.heap.size W w' := fun W hR => by
    have := blocks_any f hf (some ⟨w.heap.size + 1, 0, none⟩) 128 ya hxa (by omega) (by unfold maxLen; omega) (by omega) W hR.two (ht.below hR.below) (hkt.below hR.below (Nat.le_refl _))
    rwa [show Value.slice (some ⟨w.heap.size + 1, 0, none⟩) ya.length 128 = .slice (some ⟨w.heap.size + 1, 0, none⟩) 128 128 by rw [hla]] at this
  have PA2 : ∀ W, R3 w W w.heap.size (uTab 8 f) ya yb → Calls Tryd.prog 12 #[.agg (uTab 8 (blocksN ya f (ya.length / 128))), .slice (some ⟨w.heap.size + 1 + 1, 0, none⟩) 128 128] W fun y w' => y = .returned (.agg (uTab 8 (blocksN yb (blocksN ya f (ya.length / 128)) (yb.length / 128)))) ∧ Below W.heap.size W w' := fun W hR => by
    have := blocks_any (blocksN ya f (ya.length / 128)) (blocksN_lt hf _) (some ⟨w.heap.size + 2, 0, none⟩) 128 yb hxb (by omega) (by unfold maxLen; omega) (by omega) W hR.three (ht.below hR.below) (hkt.below hR.below (Nat.le_refl _))
    rwa [show Value.slice (some ⟨w.heap.size + 2, 0, none⟩) yb.length 128 = .slice (some ⟨w.heap.size + 2, 0, none⟩) 128 128 by rw [hlb]] at this
  have QA : ∀ W, R3 w W w.heap.size (uTab 8 f) ya yb → Calls Tryd.prog 13 #[.agg (uTab 8 f), .slice (some ⟨w.heap.size + 1, 0, none⟩) 128 128] W fun y w' => y = .returned (.agg (uTab 8 (blocksN ya f (ya.length / 128)))) ∧ Below W.heap.size W w' := fun W hR => by
    have := refBlocks_any f hf (some ⟨w.heap.size + 1, 0, none⟩) 128 ya hxa (by omega) (by unfold maxLen; omega) (by omega) W hR.two
    rwa [show Value.slice (some ⟨w.heap.size + 1, 0, none⟩) ya.length 128 = .slice (some ⟨w.heap.size + 1, 0, none⟩) 128 128 by rw [hla]] at this
  have QA2 : ∀ W, R3 w W w.heap.size (uTab 8 f) ya yb → Calls Tryd.prog 13 #[.agg (uTab 8 (blocksN ya f (ya.length / 128))), .slice (some ⟨w.heap.size + 1 + 1, 0, none⟩) 128 128] W fun y w' => y = .returned (.agg (uTab 8 (blocksN yb (blocksN ya f (ya.length / 128)) (yb.length / 128)))) ∧ Below W.heap.size W w' := fun W hR => by
    have := refBlocks_any (blocksN ya f (ya.length / 128)) (blocksN_lt hf _) (some ⟨w.heap.size + 2, 0, none⟩) 128 yb hxb (by omega) (by unfold maxLen; omega) (by omega) W hR.three
    rwa [show Value.slice (some ⟨w.heap.size + 2, 0, none⟩) yb.length 128 = .slice (some ⟨w.heap.size + 2, 0, none⟩) 128 128 by rw [hlb]] at this
  exact wideChains_core w ht hkt f _ _ ya yb hla hlb _ _ (Lib.hid S0) (Lib.hid PB) (Lib.hid PA) (Lib.hid PA2) (Lib.hid QA) (Lib.hid QA2)
end Go.Proofs.YtnihakjlfbhhiaaDoor.L64
