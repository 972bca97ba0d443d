/- Layer 9: the law on how the shortened hashes' first values are made. -/
import Derived.Test.YtechcmjmdepglaaDoorLawfst
import Derived.Test.YtechcmjmdepglaaDoorRowg
import Derived.Deep.RegionHeld3
namespace Go.Proofs.YtechcmjmdepglaaDoor
open Go.RowKit L64
set_option linter.unusedVariables false
set_option linter.unusedSimpArgs false
attribute [local go_sem ↓] eqC8_hide
/-- The text, the byte 80, and j noughts. -/
def madeL (short : Bool) (j : Nat) : List Nat := strL (txt short) ++ 128 :: List.replicate j 0
theorem madeL_length (b : Bool) (j : Nat) : (madeL b j).length = 12 + j := by
  unfold madeL
  rw [List.length_append, strL_length, txt_size, List.length_cons, List.length_replicate]; omega
theorem madeL_step (b : Bool) (j : Nat) : madeL b j ++ [0] = madeL b (j + 1) := by
  unfold madeL
  rw [List.append_assoc, List.cons_append, List.replicate_succ']
theorem madeL_end : ∀ b, madeL b 115 ++ [88] = blockL (txt b) := by decide +kernel
/-- What the last region holds: two values' rows and the block. -/
structure MB (w W : World) (a c g : Nat) (u v : Array Value) (bl : List Nat) : Prop where
  below : Below w.heap.size w W
  one : RowOk W a 8 ∧ rowAt W a = u
  two : RowOk W c 8 ∧ rowAt W c = v
  words : Words .u8 W (some ⟨g, 0, none⟩) bl
theorem MB.call {w W W' : World} {a c g : Nat} {u v : Array Value} {bl : List Nat} (h : MB w W a c g u v bl) (hb : Below W.heap.size W W') : MB w W' a c g u v bl :=
  ⟨h.below.trans (hb.mono h.below.size), row_below h.one hb, row_below h.two hb, h.words.below hb (Nat.le_refl _)⟩
/-- What the loop over the words holds: the value's row, the block, the document's words. -/
structure ML (w W : World) (a g gr : Nat) (u : Array Value) (bl : List Nat) : Prop where
  below : Below w.heap.size w W
  one : RowOk W a 8 ∧ rowAt W a = u
  words : Words .u8 W (some ⟨g, 0, none⟩) bl
  src : Words .u64 W (some ⟨gr, 0, none⟩) (fL 512)
  low : w.heap.size ≤ a
  ne : g ≠ a
  ne' : gr ≠ a
theorem words_setRow {k : IntKind} {W : World} {g a : Nat} {c : Array Value} {xs : List Nat} (h : Words k W (some ⟨g, 0, none⟩) xs) (hn : g ≠ a) : Words k (W.setRow a c) (some ⟨g, 0, none⟩) xs := fun i hi => by
  obtain ⟨b, o, e, hc⟩ := h i hi
  refine ⟨b, o, e, ?_⟩
  injection e with e
  injection e with e1 e2 e3
  rw [cell_setRow_other W a c ⟨b, o + i, none⟩ (show b ≠ a by rw [← e1]; exact hn)]
  exact hc
theorem ML.set {w W : World} {a g gr : Nat} {u u' : Array Value} {bl : List Nat} (h : ML w W a g gr u bl) (hu : u'.size = 8) : ML w (W.setRow a u') a g gr u' bl :=
  ⟨below_setRow h.below h.low _, ⟨(RowOk_setRow_at h.one.1).2 hu, rowAt_setRow_at h.one.1⟩, words_setRow h.words h.ne, words_setRow h.src h.ne', h.low, h.ne, h.ne'⟩
set_option maxRecDepth 20000 in
set_option maxHeartbeats 2000000 in
theorem firstMade_core (w : World) (ht : FirstTabs w) :
    Calls Tryd.prog 4 #[.bool true] w fun e w' => e = .returned (.bool true) ∧ Below w.heap.size w w' := by
  have HW := Lib.hid (fun W h => wakesF_any W h)
  have hcv : ∀ W : World, (convert 9 31 (.string ⟨#[83, 72, 65, 45, 53, 49, 50, 47, 50, 50, 52]⟩)).run Tryd.prog W = .ok (.slice (some ⟨W.heap.size, 0, none⟩) 11 (grownCap W 11 0 5)) (W.drew.alloc (.cells (bytesRow (txt true) (grownCap W 11 0 5)) 5 ((bytesRow (txt true) (grownCap W 11 0 5)).size, (bytesRow (txt true) (grownCap W 11 0 5)).size + 1))) :=
    fun W => run_bytes_of_string W _ _ _ (txt true) Tryd.underlying9 Tryd.underlying31 Tryd.underlying5
  have hi8 : (Tryd.prog.info? 5).map (fun i => (i.zero, i.size, i.bytes)) = some (some (.int .u8 0), 1, 1) := by kernel_rfl
  obtain ⟨i0, hi0, hz0, hz1, hz2⟩ := L64.info_parts8 hi8
  clear hi8
  go_enter Tryd.func4, Tryd.ntmps4
  go_wp2_with fail
  refine (HW.out _ ht).mono ?_
  rintro e w1 ⟨rfl, hb1⟩
  have HB1 := Lib.hid hb1
  clear hb1
  have hs1 := HB1.out.size
  have r0 := rowG_of_string w1.drew 5 (txt true) (grownCap w1 11 0 5) (grownCap_ge _ _ _ _) (grownCap_le_maxLen _ _ _ _ (by unfold maxLen; omega)) hs1
  have hb0 := (HB1.out.drewN 1).alloc hs1 (.cells (bytesRow (txt true) (grownCap w1 11 0 5)) 5 ((bytesRow (txt true) (grownCap w1 11 0 5)).size, (bytesRow (txt true) (grownCap w1 11 0 5)).size + 1))
  have HC := Lib.hid hcv
  have hcv1 := hcv w1
  clear hcv
  change (convert _ _ _).run _ _ = Result.ok _ ((w1.drewN 1).alloc _) at hcv1
  change RowG _ _ _ ((w1.drewN 1).alloc _) _ _ _ at r0
  change Below _ _ ((w1.drewN 1).alloc _) at hb0
  have hsz : ((w1.drewN 1).alloc (.cells (bytesRow (txt true) (grownCap w1 11 0 5)) 5 ((bytesRow (txt true) (grownCap w1 11 0 5)).size, (bytesRow (txt true) (grownCap w1 11 0 5)).size + 1))).heap.size = w1.heap.size + 1 := by simp
  generalize (w1.drewN 1).alloc (.cells (bytesRow (txt true) (grownCap w1 11 0 5)) 5 ((bytesRow (txt true) (grownCap w1 11 0 5)).size, (bytesRow (txt true) (grownCap w1 11 0 5)).size + 1)) = W1 at *
  change RowG _ _ _ _ w1.heap.size _ _ at r0
  have r1 := r0.below ((Below.refl _ _).alloc (Nat.le_refl _) (.cells #[.int .u8 128] 5))
  have hb1 := hb0.alloc hb0.size (.cells #[.int .u8 128] 5)
  generalize grownCap w1 11 0 5 = cap at *
  generalize w1.heap.size = n1 at *
  clear r0 HC HB1
  go_wp2_with (first
    | (at_builtin; refine wpList_append_rowG rfl (.tmp 15) (.tmp 16) 31 rfl 5 i0 .u8 1 Tryd.underlying31 hi0 hz0 hz1 hz2 w.heap.size n1 11 cap (strL (txt true)) rfl (by rw [strL_length]; rfl) r1 hb1.size ⟨W1.heap.size, 0, none⟩ 1 128 (by rw [hsz]; rfl) (cell_one_new _ _ _ 0 _ rfl) (by omega) (by unfold maxLen; omega) ?_
       intro g2 cap2 w2 hr2 hb2)
    | fail)
  have HR2 : Hid (RowG .u8 5 w.heap.size w2 g2 cap2 (madeL true 0)) := hr2
  have HB2 := Lib.hid (hb1.trans hb2)
  clear hr2 hb1 hb2 hcv1 hsz r1 hb0
  go_loopg [5] 115 (fun k v wr => ∃ j g c n : Nat, j + k = 115 ∧ n = 12 + j ∧ v = .slice (some ⟨g, 0, none⟩) n c ∧ Hid (RowG .u8 5 w.heap.size wr g c (madeL true j)) ∧ Hid (Below w.heap.size w wr))
  case atStart => exact ⟨0, g2, cap2, 12, by omega, rfl, rfl, HR2, HB2⟩
  case round =>
    clear HR2 HB2
    obtain ⟨j, g, c, n, hj, hn, rfl, HR, HB⟩ := hrel
    by_cases hj5 : j < 115
    · obtain ⟨k, rfl⟩ : ∃ k, gk = k + 1 := ⟨gk - 1, by omega⟩
      have hlt : (n : Int) < 127 := by omega
      have hl : (madeL true j).length = n := by rw [madeL_length, hn]
      have r1 := HR.out.below ((Below.refl _ _).alloc (Nat.le_refl _) (.cells #[.int .u8 0] 5))
      have hb1 := HB.out.alloc HB.out.size (.cells #[.int .u8 0] 5)
      go_wp2_with (first
        | (at_builtin; refine wpList_append_rowG rfl (.tmp 21) (.tmp 22) 31 rfl 5 i0 .u8 1 Tryd.underlying31 hi0 hz0 hz1 hz2 w.heap.size g n c (madeL true j) rfl hl r1 hb1.size ⟨wr.heap.size, 0, none⟩ 1 0 rfl (cell_one_new _ _ _ 0 _ rfl) (by omega) (by unfold maxLen; omega) ?_
           intro g3 c3 w3 hr3 hb3
           rw [madeL_step] at hr3
           have HR3 := Lib.hid hr3
           have HB3 := Lib.hid (hb1.trans hb3)
           clear hr3 hb3)
        | fail)
      go_roundg k
      case measure => omega
      case rel => exact ⟨j + 1, g3, c3, 12 + j + 1, by omega, by omega, rfl, HR3, HB3⟩
    · obtain rfl : j = 115 := by omega
      have hlt : ¬ (n : Int) < 127 := by omega
      have hl : (madeL true 115).length = n := by rw [madeL_length, hn]
      obtain rfl : n = 127 := hn
      have r1 := HR.out.below ((Below.refl _ _).alloc (Nat.le_refl _) (.cells #[.int .u8 88] 5))
      have hb1 := HB.out.alloc HB.out.size (.cells #[.int .u8 88] 5)
      clear HR HB hj hj5 hlt
      go_wp2_with (first
        | (at_builtin; refine wpList_append_rowG rfl (.tmp 24) (.tmp 25) 31 rfl 5 i0 .u8 1 Tryd.underlying31 hi0 hz0 hz1 hz2 w.heap.size g 127 c (madeL true 115) rfl hl r1 hb1.size ⟨wr.heap.size, 0, none⟩ 1 88 rfl (cell_one_new _ _ _ 0 _ rfl) (by omega) (by unfold maxLen; omega) ?_
           intro g3 c3 w3 hr3 hb3
           rw [madeL_end] at hr3
           have HR3 := Lib.hid hr3
           have HB3 := Lib.hid (hb1.trans hb3)
           clear hr3 hb3 r1 hb1 hl)
        | fail)
      have hw3 := HR3.out.words
      have hg3 := HR3.out.lt
      have hs3 := HB3.out.size
      have HF := Lib.hid (fun W => refFirst_any 512 W)
      have HCap : Hid (128 ≤ c3 ∧ c3 ≤ maxLen) := by
        have h1 := HR3.out.2.1
        rw [blockL_length (txt_size true)] at h1
        exact ⟨h1, HR3.out.2.2.1⟩
      have M0 : ML w ((w3.alloc (.cells (uTab 8 fun _ => 0) 24)).alloc (.cells (uTab 8 (firstN 512)) 23)) w3.heap.size g3 (w3.heap.size + 1) (uTab 8 (upToF turnedN 0)) (blockL (txt true)) := by
        rw [upToF_zero]
        have q1 : RowOk (w3.alloc (.cells (uTab 8 fun _ => 0) 24)) w3.heap.size 8 := (RowOk_alloc_at rfl).2 (uTab_size _ _)
        have q2 : rowAt (w3.alloc (.cells (uTab 8 fun _ => 0) 24)) w3.heap.size = uTab 8 fun _ => 0 := rowAt_alloc_at rfl
        have q3 := hw3.below ((Below.refl _ _).alloc (Nat.le_refl _) (.cells (uTab 8 fun _ => 0) 24)) (Nat.le_refl _)
        have q4 := fL_words (heap_alloc_new (w3.alloc (.cells (uTab 8 fun _ => 0) 24)) (.cells (uTab 8 (firstN 512)) 23))
        have hs4 := hs3
        rw [World.size_alloc] at q4
        refine ⟨(HB3.out.alloc hs3 _).alloc (by simp; omega) _, row_below ⟨q1, q2⟩ ((Below.refl _ _).alloc (Nat.le_refl _) _), q3.below ((Below.refl _ _).alloc (Nat.le_refl _) _) (Nat.le_refl _), q4, hs3, Nat.ne_of_lt hg3, by omega⟩
      have HM0 := Lib.hid M0
      clear M0 hw3 HB3 HR3 hg3 hs3 HW
      refine (HF.out _).mono ?_
      rintro e w5 ⟨rfl, rfl⟩
      clear HF
      rw [World.size_alloc]
      generalize (w3.alloc (.cells (uTab 8 fun _ => 0) 24)).alloc (.cells (uTab 8 (firstN 512)) 23) = W5 at *
      obtain ⟨gr, hgr⟩ : ∃ gr, gr = w3.heap.size + 1 := ⟨_, rfl⟩
      rw [← hgr] at HM0 ⊢
      clear hgr
      generalize w3.heap.size = b3 at *
      go_wp2
      go_loopg [29] 8 (fun k v wq => ∃ j : Nat, j + k = 8 ∧ v = .int .i64 (j : Nat) ∧ Hid (ML w wq b3 g3 gr (uTab 8 (upToF turnedN j)) (blockL (txt true))))
      case atStart => exact ⟨0, by omega, rfl, HM0⟩
      case round =>
        clear HM0
        obtain ⟨j, hj, rfl, HM⟩ := hrel
        by_cases hj8 : j < 8
        · obtain ⟨k, rfl⟩ : ∃ k, gk = k + 1 := ⟨gk - 1, by omega⟩
          have M := HM.out
          obtain ⟨b', o', eA, -, hx⟩ := M.src.block (i := j) (by rw [fL_length]; exact hj8)
          cases eA
          rw [fL_at 512 hj8, Nat.zero_add] at hx
          obtain ⟨t, hgW, -⟩ := M.one.1.heap
          rw [M.one.2] at hgW
          have f2 : wr.cell? ⟨b3, j, none⟩ = some (.int .u64 (upToF turnedN j j : Nat)) := (cell_of_row _ _ j _ _ _ hgW).trans (uTab_at 8 _ j hj8)
          have f3 : wr.frozen? ⟨b3, j, none⟩ = false := frozen_row hgW
          have f4 : wr.setCell ⟨b3, j, none⟩ (.int .u64 (turnedN j : Nat)) = wr.setRow b3 (uTab 8 (upToF turnedN (j + 1))) := by
            rw [setCell_eq_setRow _ _ _ _ _ _ _ hgW, upToF_step turnedN 8 j _ rfl]
          have hfx := firstN_lt 512 j
          have hxor : bits .xor .u64 (firstN 512 j : Nat) 11936128518282651045 = (turnedN j : Nat) := by
            rw [show (11936128518282651045 : Int) = ((11936128518282651045 : Nat) : Int) from rfl, u64_xor_nat _ _ hfx (by decide)]; rfl
          have HM2 := Lib.hid (M.set (u' := uTab 8 (upToF turnedN (j + 1))) (uTab_size _ _))
          have F4 := Lib.hid f4
          have hy := turnedN_lt j
          clear f4 hgW HM M
          generalize hW9 : wr.setRow b3 (uTab 8 (upToF turnedN (j + 1))) = W9 at *
          have f4 := F4.out
          clear F4
          generalize upToF turnedN j j = y0 at *
          generalize turnedN j = y at *
          generalize firstN 512 j = x at *
          go_wp2
          go_roundg k
          case measure => omega
          case rel => exact ⟨j + 1, by omega, by go_num, HM2⟩
        · obtain rfl : j = 8 := by omega
          have M := HM.out
          rw [upToF_full] at M
          have hM := Lib.hid M
          have HT : Hid (∀ W, FirstTabs W → Calls Tryd.prog 8 #[.int .i64 224] W fun e w' => e = .returned (.tuple #[.agg (uTab 8 (truncN true)), .bool true]) ∧ Below W.heap.size W w') := fun W h => truncated_any true W h
          clear HM M
          go_wp2_with fail
          refine (HT.out _ (ht.below hM.out.below)).mono ?_
          rintro e w6 ⟨rfl, hb6⟩
          have hbw := hM.out.below.trans (hb6.mono hM.out.below.size)
          have qv := row_below hM.out.one hb6
          have B0 : MB w (w6.alloc (.cells (uTab 8 (truncN true)) 24)) b3 w6.heap.size g3 (uTab 8 turnedN) (uTab 8 (truncN true)) (blockL (txt true)) :=
            ⟨hbw.alloc hbw.size _, ⟨(RowOk_alloc_past qv.1.lt).2 qv.1, (rowAt_alloc_past qv.1.lt).trans qv.2⟩, ⟨(RowOk_alloc_at rfl).2 (uTab_size _ _), rowAt_alloc_at rfl⟩, (hM.out.words.below hb6 (Nat.le_refl _)).below ((Below.refl _ _).alloc (Nat.le_refl _) _) (Nat.le_refl _)⟩
          have hQ0 := fun c hc hm W h => refBlocks_any turnedN turnedN_lt (some ⟨g3, 0, none⟩) c (blockL (txt true)) (blockL_lt _) (by rw [blockL_length (txt_size true)]; exact hc) hm (by rw [blockL_length (txt_size true)]; omega) W h
          rw [blockL_length (txt_size true), show 128 / 128 = 1 from rfl, show blocksN (blockL (txt true)) turnedN 1 = truncN true from rfl] at hQ0
          have HQ := Lib.hid hQ0
          have hb0 := Lib.hid B0
          clear hQ0 B0 hbw qv hb6 HT hM
          generalize blockL (txt true) = bl at *
          generalize truncN true = X at *
          have hEq : ∀ W : World, (eqC8 X X).run Tryd.prog W = .ok (.bool true) W := fun W => by rw [run_eqC8]; simp
          go_wp2
          generalize w6.alloc (.cells (uTab 8 X) 24) = W6 at *
          generalize w6.heap.size = c6 at *
          have B1 := hb0.out
          have C1 : ∀ W, MB w W b3 c6 g3 (uTab 8 turnedN) (uTab 8 X) bl → RowOk W b3 8 := fun W h => h.one.1
          have C2 : ∀ W, MB w W b3 c6 g3 (uTab 8 turnedN) (uTab 8 X) bl → rowAt W b3 = uTab 8 turnedN := fun W h => h.one.2
          have C3 : ∀ W, MB w W b3 c6 g3 (uTab 8 turnedN) (uTab 8 X) bl → RowOk W c6 8 := fun W h => h.two.1
          have C4 : ∀ W, MB w W b3 c6 g3 (uTab 8 turnedN) (uTab 8 X) bl → rowAt W c6 = uTab 8 X := fun W h => h.two.2
          clear hb0
          go_region_held3 (fun W => MB w W b3 c6 g3 (uTab 8 turnedN) (uTab 8 X) bl)
            (first | exact B1.call ((Below.refl _ _).drewN 1) | assumption | exact MB.call (by assumption) hq1 | fail)
            (first
              | (go_at_call 13; (with_reducible refine (HQ.out c3 HCap.out.1 HCap.out.2 _ (MB.words (by assumption))).mono ?_); rintro e u1 ⟨rfl, hq1⟩)
              | fail)
          have hEnd : MB w u1 b3 c6 g3 (uTab 8 turnedN) (uTab 8 X) bl := by assumption
          have HE := Lib.hid hEnd.below
          clear hEnd B1
          go_wp2
          go_ret
          exact ⟨rfl, HE.out⟩
set_option maxRecDepth 20000 in
set_option maxHeartbeats 2000000 in
theorem firstMade_coreF (w : World) (ht : FirstTabs w) :
    Calls Tryd.prog 4 #[.bool false] w fun e w' => e = .returned (.bool true) ∧ Below w.heap.size w w' := by
  have HW := Lib.hid (fun W h => wakesF_any W h)
  have hcv : ∀ W : World, (convert 9 31 (.string ⟨#[83, 72, 65, 45, 53, 49, 50, 47, 50, 53, 54]⟩)).run Tryd.prog W = .ok (.slice (some ⟨W.heap.size, 0, none⟩) 11 (grownCap W 11 0 5)) (W.drew.alloc (.cells (bytesRow (txt false) (grownCap W 11 0 5)) 5 ((bytesRow (txt false) (grownCap W 11 0 5)).size, (bytesRow (txt false) (grownCap W 11 0 5)).size + 1))) :=
    fun W => run_bytes_of_string W _ _ _ (txt false) Tryd.underlying9 Tryd.underlying31 Tryd.underlying5
  have hi8 : (Tryd.prog.info? 5).map (fun i => (i.zero, i.size, i.bytes)) = some (some (.int .u8 0), 1, 1) := by kernel_rfl
  obtain ⟨i0, hi0, hz0, hz1, hz2⟩ := L64.info_parts8 hi8
  clear hi8
  go_enter Tryd.func4, Tryd.ntmps4
  go_wp2_with fail
  refine (HW.out _ ht).mono ?_
  rintro e w1 ⟨rfl, hb1⟩
  have HB1 := Lib.hid hb1
  clear hb1
  have hs1 := HB1.out.size
  have r0 := rowG_of_string w1.drew 5 (txt false) (grownCap w1 11 0 5) (grownCap_ge _ _ _ _) (grownCap_le_maxLen _ _ _ _ (by unfold maxLen; omega)) hs1
  have hb0 := (HB1.out.drewN 1).alloc hs1 (.cells (bytesRow (txt false) (grownCap w1 11 0 5)) 5 ((bytesRow (txt false) (grownCap w1 11 0 5)).size, (bytesRow (txt false) (grownCap w1 11 0 5)).size + 1))
  have HC := Lib.hid hcv
  have hcv1 := hcv w1
  clear hcv
  change (convert _ _ _).run _ _ = Result.ok _ ((w1.drewN 1).alloc _) at hcv1
  change RowG _ _ _ ((w1.drewN 1).alloc _) _ _ _ at r0
  change Below _ _ ((w1.drewN 1).alloc _) at hb0
  have hsz : ((w1.drewN 1).alloc (.cells (bytesRow (txt false) (grownCap w1 11 0 5)) 5 ((bytesRow (txt false) (grownCap w1 11 0 5)).size, (bytesRow (txt false) (grownCap w1 11 0 5)).size + 1))).heap.size = w1.heap.size + 1 := by simp
  generalize (w1.drewN 1).alloc (.cells (bytesRow (txt false) (grownCap w1 11 0 5)) 5 ((bytesRow (txt false) (grownCap w1 11 0 5)).size, (bytesRow (txt false) (grownCap w1 11 0 5)).size + 1)) = W1 at *
  change RowG _ _ _ _ w1.heap.size _ _ at r0
  have r1 := r0.below ((Below.refl _ _).alloc (Nat.le_refl _) (.cells #[.int .u8 128] 5))
  have hb1 := hb0.alloc hb0.size (.cells #[.int .u8 128] 5)
  generalize grownCap w1 11 0 5 = cap at *
  generalize w1.heap.size = n1 at *
  clear r0 HC HB1
  go_wp2_with (first
    | (at_builtin; refine wpList_append_rowG rfl (.tmp 15) (.tmp 16) 31 rfl 5 i0 .u8 1 Tryd.underlying31 hi0 hz0 hz1 hz2 w.heap.size n1 11 cap (strL (txt false)) rfl (by rw [strL_length]; rfl) r1 hb1.size ⟨W1.heap.size, 0, none⟩ 1 128 (by rw [hsz]; rfl) (cell_one_new _ _ _ 0 _ rfl) (by omega) (by unfold maxLen; omega) ?_
       intro g2 cap2 w2 hr2 hb2)
    | fail)
  have HR2 : Hid (RowG .u8 5 w.heap.size w2 g2 cap2 (madeL false 0)) := hr2
  have HB2 := Lib.hid (hb1.trans hb2)
  clear hr2 hb1 hb2 hcv1 hsz r1 hb0
  go_loopg [5] 115 (fun k v wr => ∃ j g c n : Nat, j + k = 115 ∧ n = 12 + j ∧ v = .slice (some ⟨g, 0, none⟩) n c ∧ Hid (RowG .u8 5 w.heap.size wr g c (madeL false j)) ∧ Hid (Below w.heap.size w wr))
  case atStart => exact ⟨0, g2, cap2, 12, by omega, rfl, rfl, HR2, HB2⟩
  case round =>
    clear HR2 HB2
    obtain ⟨j, g, c, n, hj, hn, rfl, HR, HB⟩ := hrel
    by_cases hj5 : j < 115
    · obtain ⟨k, rfl⟩ : ∃ k, gk = k + 1 := ⟨gk - 1, by omega⟩
      have hlt : (n : Int) < 127 := by omega
      have hl : (madeL false j).length = n := by rw [madeL_length, hn]
      have r1 := HR.out.below ((Below.refl _ _).alloc (Nat.le_refl _) (.cells #[.int .u8 0] 5))
      have hb1 := HB.out.alloc HB.out.size (.cells #[.int .u8 0] 5)
      go_wp2_with (first
        | (at_builtin; refine wpList_append_rowG rfl (.tmp 21) (.tmp 22) 31 rfl 5 i0 .u8 1 Tryd.underlying31 hi0 hz0 hz1 hz2 w.heap.size g n c (madeL false j) rfl hl r1 hb1.size ⟨wr.heap.size, 0, none⟩ 1 0 rfl (cell_one_new _ _ _ 0 _ rfl) (by omega) (by unfold maxLen; omega) ?_
           intro g3 c3 w3 hr3 hb3
           rw [madeL_step] at hr3
           have HR3 := Lib.hid hr3
           have HB3 := Lib.hid (hb1.trans hb3)
           clear hr3 hb3)
        | fail)
      go_roundg k
      case measure => omega
      case rel => exact ⟨j + 1, g3, c3, 12 + j + 1, by omega, by omega, rfl, HR3, HB3⟩
    · obtain rfl : j = 115 := by omega
      have hlt : ¬ (n : Int) < 127 := by omega
      have hl : (madeL false 115).length = n := by rw [madeL_length, hn]
      obtain rfl : n = 127 := hn
      have r1 := HR.out.below ((Below.refl _ _).alloc (Nat.le_refl _) (.cells #[.int .u8 88] 5))
      have hb1 := HB.out.alloc HB.out.size (.cells #[.int .u8 88] 5)
      clear HR HB hj hj5 hlt
      go_wp2_with (first
        | (at_builtin; refine wpList_append_rowG rfl (.tmp 24) (.tmp 25) 31 rfl 5 i0 .u8 1 Tryd.underlying31 hi0 hz0 hz1 hz2 w.heap.size g 127 c (madeL false 115) rfl hl r1 hb1.size ⟨wr.heap.size, 0, none⟩ 1 88 rfl (cell_one_new _ _ _ 0 _ rfl) (by omega) (by unfold maxLen; omega) ?_
           intro g3 c3 w3 hr3 hb3
           rw [madeL_end] at hr3
           have HR3 := Lib.hid hr3
           have HB3 := Lib.hid (hb1.trans hb3)
           clear hr3 hb3 r1 hb1 hl)
        | fail)
      have hw3 := HR3.out.words
      have hg3 := HR3.out.lt
      have hs3 := HB3.out.size
      have HF := Lib.hid (fun W => refFirst_any 512 W)
      have HCap : Hid (128 ≤ c3 ∧ c3 ≤ maxLen) := by
        have h1 := HR3.out.2.1
        rw [blockL_length (txt_size false)] at h1
        exact ⟨h1, HR3.out.2.2.1⟩
      have M0 : ML w ((w3.alloc (.cells (uTab 8 fun _ => 0) 24)).alloc (.cells (uTab 8 (firstN 512)) 23)) w3.heap.size g3 (w3.heap.size + 1) (uTab 8 (upToF turnedN 0)) (blockL (txt false)) := by
        rw [upToF_zero]
        have q1 : RowOk (w3.alloc (.cells (uTab 8 fun _ => 0) 24)) w3.heap.size 8 := (RowOk_alloc_at rfl).2 (uTab_size _ _)
        have q2 : rowAt (w3.alloc (.cells (uTab 8 fun _ => 0) 24)) w3.heap.size = uTab 8 fun _ => 0 := rowAt_alloc_at rfl
        have q3 := hw3.below ((Below.refl _ _).alloc (Nat.le_refl _) (.cells (uTab 8 fun _ => 0) 24)) (Nat.le_refl _)
        have q4 := fL_words (heap_alloc_new (w3.alloc (.cells (uTab 8 fun _ => 0) 24)) (.cells (uTab 8 (firstN 512)) 23))
        have hs4 := hs3
        rw [World.size_alloc] at q4
        refine ⟨(HB3.out.alloc hs3 _).alloc (by simp; omega) _, row_below ⟨q1, q2⟩ ((Below.refl _ _).alloc (Nat.le_refl _) _), q3.below ((Below.refl _ _).alloc (Nat.le_refl _) _) (Nat.le_refl _), q4, hs3, Nat.ne_of_lt hg3, by omega⟩
      have HM0 := Lib.hid M0
      clear M0 hw3 HB3 HR3 hg3 hs3 HW
      refine (HF.out _).mono ?_
      rintro e w5 ⟨rfl, rfl⟩
      clear HF
      rw [World.size_alloc]
      generalize (w3.alloc (.cells (uTab 8 fun _ => 0) 24)).alloc (.cells (uTab 8 (firstN 512)) 23) = W5 at *
      obtain ⟨gr, hgr⟩ : ∃ gr, gr = w3.heap.size + 1 := ⟨_, rfl⟩
      rw [← hgr] at HM0 ⊢
      clear hgr
      generalize w3.heap.size = b3 at *
      go_wp2
      go_loopg [29] 8 (fun k v wq => ∃ j : Nat, j + k = 8 ∧ v = .int .i64 (j : Nat) ∧ Hid (ML w wq b3 g3 gr (uTab 8 (upToF turnedN j)) (blockL (txt false))))
      case atStart => exact ⟨0, by omega, rfl, HM0⟩
      case round =>
        clear HM0
        obtain ⟨j, hj, rfl, HM⟩ := hrel
        by_cases hj8 : j < 8
        · obtain ⟨k, rfl⟩ : ∃ k, gk = k + 1 := ⟨gk - 1, by omega⟩
          have M := HM.out
          obtain ⟨b', o', eA, -, hx⟩ := M.src.block (i := j) (by rw [fL_length]; exact hj8)
          cases eA
          rw [fL_at 512 hj8, Nat.zero_add] at hx
          obtain ⟨t, hgW, -⟩ := M.one.1.heap
          rw [M.one.2] at hgW
          have f2 : wr.cell? ⟨b3, j, none⟩ = some (.int .u64 (upToF turnedN j j : Nat)) := (cell_of_row _ _ j _ _ _ hgW).trans (uTab_at 8 _ j hj8)
          have f3 : wr.frozen? ⟨b3, j, none⟩ = false := frozen_row hgW
          have f4 : wr.setCell ⟨b3, j, none⟩ (.int .u64 (turnedN j : Nat)) = wr.setRow b3 (uTab 8 (upToF turnedN (j + 1))) := by
            rw [setCell_eq_setRow _ _ _ _ _ _ _ hgW, upToF_step turnedN 8 j _ rfl]
          have hfx := firstN_lt 512 j
          have hxor : bits .xor .u64 (firstN 512 j : Nat) 11936128518282651045 = (turnedN j : Nat) := by
            rw [show (11936128518282651045 : Int) = ((11936128518282651045 : Nat) : Int) from rfl, u64_xor_nat _ _ hfx (by decide)]; rfl
          have HM2 := Lib.hid (M.set (u' := uTab 8 (upToF turnedN (j + 1))) (uTab_size _ _))
          have F4 := Lib.hid f4
          have hy := turnedN_lt j
          clear f4 hgW HM M
          generalize hW9 : wr.setRow b3 (uTab 8 (upToF turnedN (j + 1))) = W9 at *
          have f4 := F4.out
          clear F4
          generalize upToF turnedN j j = y0 at *
          generalize turnedN j = y at *
          generalize firstN 512 j = x at *
          go_wp2
          go_roundg k
          case measure => omega
          case rel => exact ⟨j + 1, by omega, by go_num, HM2⟩
        · obtain rfl : j = 8 := by omega
          have M := HM.out
          rw [upToF_full] at M
          have hM := Lib.hid M
          have HT : Hid (∀ W, FirstTabs W → Calls Tryd.prog 8 #[.int .i64 256] W fun e w' => e = .returned (.tuple #[.agg (uTab 8 (truncN false)), .bool true]) ∧ Below W.heap.size W w') := fun W h => truncated_any false W h
          clear HM M
          go_wp2_with fail
          refine (HT.out _ (ht.below hM.out.below)).mono ?_
          rintro e w6 ⟨rfl, hb6⟩
          have hbw := hM.out.below.trans (hb6.mono hM.out.below.size)
          have qv := row_below hM.out.one hb6
          have B0 : MB w (w6.alloc (.cells (uTab 8 (truncN false)) 24)) b3 w6.heap.size g3 (uTab 8 turnedN) (uTab 8 (truncN false)) (blockL (txt false)) :=
            ⟨hbw.alloc hbw.size _, ⟨(RowOk_alloc_past qv.1.lt).2 qv.1, (rowAt_alloc_past qv.1.lt).trans qv.2⟩, ⟨(RowOk_alloc_at rfl).2 (uTab_size _ _), rowAt_alloc_at rfl⟩, (hM.out.words.below hb6 (Nat.le_refl _)).below ((Below.refl _ _).alloc (Nat.le_refl _) _) (Nat.le_refl _)⟩
          have hQ0 := fun c hc hm W h => refBlocks_any turnedN turnedN_lt (some ⟨g3, 0, none⟩) c (blockL (txt false)) (blockL_lt _) (by rw [blockL_length (txt_size false)]; exact hc) hm (by rw [blockL_length (txt_size false)]; omega) W h
          rw [blockL_length (txt_size false), show 128 / 128 = 1 from rfl, show blocksN (blockL (txt false)) turnedN 1 = truncN false from rfl] at hQ0
          have HQ := Lib.hid hQ0
          have hb0 := Lib.hid B0
          clear hQ0 B0 hbw qv hb6 HT hM
          generalize blockL (txt false) = bl at *
          generalize truncN false = X at *
          have hEq : ∀ W : World, (eqC8 X X).run Tryd.prog W = .ok (.bool true) W := fun W => by rw [run_eqC8]; simp
          go_wp2
          generalize w6.alloc (.cells (uTab 8 X) 24) = W6 at *
          generalize w6.heap.size = c6 at *
          have B1 := hb0.out
          have C1 : ∀ W, MB w W b3 c6 g3 (uTab 8 turnedN) (uTab 8 X) bl → RowOk W b3 8 := fun W h => h.one.1
          have C2 : ∀ W, MB w W b3 c6 g3 (uTab 8 turnedN) (uTab 8 X) bl → rowAt W b3 = uTab 8 turnedN := fun W h => h.one.2
          have C3 : ∀ W, MB w W b3 c6 g3 (uTab 8 turnedN) (uTab 8 X) bl → RowOk W c6 8 := fun W h => h.two.1
          have C4 : ∀ W, MB w W b3 c6 g3 (uTab 8 turnedN) (uTab 8 X) bl → rowAt W c6 = uTab 8 X := fun W h => h.two.2
          clear hb0
          go_region_held3 (fun W => MB w W b3 c6 g3 (uTab 8 turnedN) (uTab 8 X) bl)
            (first | exact B1.call ((Below.refl _ _).drewN 1) | assumption | exact MB.call (by assumption) hq1 | fail)
            (first
              | (go_at_call 13; (with_reducible refine (HQ.out c3 HCap.out.1 HCap.out.2 _ (MB.words (by assumption))).mono ?_); rintro e u1 ⟨rfl, hq1⟩)
              | fail)
          have hEnd : MB w u1 b3 c6 g3 (uTab 8 turnedN) (uTab 8 X) bl := by assumption
          have HE := Lib.hid hEnd.below
          clear hEnd B1
          go_wp2
          go_ret
          exact ⟨rfl, HE.out⟩
theorem firstMade_walk (w : World) (ht : FirstTabs w) (b : Bool) : Calls Tryd.prog 4 #[.bool b] w fun e w' => e = .returned (.bool true) ∧ Below w.heap.size w w' := by
  cases b
  · exact firstMade_coreF w ht
  · exact firstMade_core w ht
end Go.Proofs.YtechcmjmdepglaaDoor
