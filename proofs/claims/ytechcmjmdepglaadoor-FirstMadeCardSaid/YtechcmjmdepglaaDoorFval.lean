/- Layer 9: first: what Truncated tells. -/
import Derived.Test.YtechcmjmdepglaaDoorFnum
import Derived.Test.YtechcmjmdepglaaDoorItoa
import Derived.Test.YtechcmjmdepglaaDoorLawwide
import Derived.Deep.RegionHeld3
import Derived.WalkMore
import Derived.Deep.LoopGhost
namespace Go.Proofs.YtechcmjmdepglaaDoor
open Go.RowKit L64
set_option linter.unusedVariables false
set_option linter.unusedSimpArgs false
/-- The first j words turned. -/
def xTo (j : Nat) : Nat → Nat := fun i => if i < j then turnedN i else firstN 512 i
theorem xTo_zero : uTab 8 (xTo 0) = uTab 8 (firstN 512) := tab_congr fun i _ => by simp [xTo]
theorem xTo_full : uTab 8 (xTo 8) = uTab 8 turnedN := tab_congr fun i hi => by unfold xTo; rw [if_pos hi]
theorem xTo_here (j : Nat) : xTo j j = firstN 512 j := by unfold xTo; rw [if_neg (by omega)]
theorem xTo_step (j : Nat) (u : Int) (hu : u = (turnedN j : Nat)) : (uTab 8 (xTo j)).setIfInBounds j (.int .u64 u) = uTab 8 (xTo (j + 1)) :=
  tab_set 8 _ _ j _ (by unfold xTo; rw [if_pos (by omega), hu]) fun i _ hn => by unfold xTo; by_cases h : i < j <;> simp [h, show i < j + 1 ↔ i < j by omega]
/-- The result's row and the value's. -/
structure TB (w W : World) (b : Nat) (u : Array Value) : Prop where
  below : Below w.heap.size w W
  res : RowOk W w.heap.size 8
  val : RowOk W b 8
  cells : rowAt W b = u
  far : w.heap.size < b
theorem TB.call {w W W' : World} {b : Nat} {u : Array Value} (h : TB w W b u) (hb : Below W.heap.size W W') : TB w W' b u :=
  ⟨h.below.trans (hb.mono h.below.size), (row_below ⟨h.res, rfl⟩ hb).1, (row_below ⟨h.val, rfl⟩ hb).1, ((row_below ⟨h.val, rfl⟩ hb).2).trans h.cells, h.far⟩
theorem TB.set {w W : World} {b : Nat} {u u' : Array Value} (h : TB w W b u) (hu : u'.size = 8) : TB w (W.setRow b u') b u' :=
  ⟨below_setRow h.below (Nat.le_of_lt h.far) _, h.res.other (Nat.ne_of_lt h.far), (RowOk_setRow_at h.val).2 hu, rowAt_setRow_at h.val, h.far⟩
theorem TB.setRes {w W : World} {b : Nat} {u u' : Array Value} (h : TB w W b u) (hu : u'.size = 8) : TB w (W.setRow w.heap.size u') b u :=
  ⟨below_setRow h.below (Nat.le_refl _) _, (RowOk_setRow_at h.res).2 hu, h.val.other (Nat.ne_of_gt h.far), (rowAt_setRow_past (Nat.ne_of_gt h.far)).trans h.cells, h.far⟩
def tI (short : Bool) : Int := if short then 224 else 256
def tS (short : Bool) : ByteArray := if short then ⟨#[50, 50, 52]⟩ else ⟨#[50, 53, 54]⟩
theorem itoa_tI : ∀ b, (⟨(Lib.itoa (tI b)).toArray⟩ : ByteArray) = tS b
  | true => by kernel_rfl
  | false => by kernel_rfl
theorem tS_cat : ∀ b, (⟨#[83, 72, 65, 45, 53, 49, 50, 47]⟩ : ByteArray) ++ tS b = txt b
  | true => by kernel_rfl
  | false => by kernel_rfl
/-- The tables that first leans on. -/
structure FirstTabs (w : World) : Prop where
  big : Tab w 3 [.int .i64 28, .int .i64 34, .int .i64 39, .int .i64 14, .int .i64 18, .int .i64 41]
  small : Tab w 1 [.int .i64 1, .int .i64 8, .int .i64 19, .int .i64 61]
  shifts : Tab w 2 [.int .i64 7, .int .i64 6]
  cubes : ∃ T fr, w.heap[0]? = some (.cells (cellsOf .u64 kL).toArray T fr)
  tens : ∃ T fr, w.heap[4]? = some (.cells (Lib.pow10Tab.map fun z => Value.int .u64 z).toArray T fr)
theorem FirstTabs.sig {w : World} (h : FirstTabs w) : SigTabs w := ⟨h.big, h.small, h.shifts⟩
theorem FirstTabs.ktab {w : World} (h : FirstTabs w) : KTab w := ⟨h.cubes⟩
theorem FirstTabs.ten {w : World} (h : FirstTabs w) : TenTab w := h.tens
theorem FirstTabs.below {w w' : World} (h : FirstTabs w) (hb : Below w.heap.size w w') : FirstTabs w' := by
  obtain ⟨T, fr, hc⟩ := h.cubes
  obtain ⟨T', fr', hd⟩ := h.tens
  exact ⟨h.big.below hb (Nat.le_refl _), h.small.below hb (Nat.le_refl _), h.shifts.below hb (Nat.le_refl _), ⟨T, fr, (hb.block _ (Array.getElem?_eq_some_iff.1 hc).1).trans hc⟩, ⟨T', fr', (hb.block _ (Array.getElem?_eq_some_iff.1 hd).1).trans hd⟩⟩
/-- The pair that Truncated, listed and Value tell. -/
def pairV (f : Nat → Nat) (ok : Bool) : Value := .tuple #[.agg (uTab 8 f), .bool ok]
set_option maxRecDepth 20000 in
set_option maxHeartbeats 1000000 in
theorem truncated_any (short : Bool) (w : World) (ht : FirstTabs w) :
    Calls Tryd.prog 8 #[.int .i64 (tI short)] w fun e w' => e = .returned (pairV (truncN short) true) ∧ Below w.heap.size w w' := by
  have HF := Lib.hid (fun W => first_any 512 W)
  have HI0 := fun W h => itoa_any (tI short) (by cases short <;> decide) (by cases short <;> decide) W h
  rw [itoa_tI] at HI0
  have HI := Lib.hid HI0
  have HBk := Lib.hid (fun W => block_any (txt short) (txt_size short) W)
  have HS : Hid ((tS short).size = 3) := by cases short <;> rfl
  have hadd : ∀ W, (Op.stringOp .add ⟨#[83, 72, 65, 45, 53, 49, 50, 47]⟩ (tS short)).run Tryd.prog W = .ok (.string (txt short)) W := fun W => by
    have h := run_string_add_sum (P := Tryd.prog) (w := W) ⟨#[83, 72, 65, 45, 53, 49, 50, 47]⟩ (tS short) (by rw [HS.out]; decide)
    rwa [tS_cat] at h
  have HA := Lib.hid hadd
  clear HI0 hadd
  cases hsh : short with
  | true =>
    rw [show tI true = 224 from rfl]
    rw [hsh] at HI HBk HS HA
    rw [show tI true = 224 from rfl] at HI
    generalize tS true = sx at *
    have HQ := Lib.hid (fun A c W h h1 h2 hc hm => blocks_any turnedN turnedN_lt A c (blockL (txt true)) (blockL_lt _) (by rw [blockL_length (txt_size true)]; exact hc) hm (by rw [blockL_length (txt_size true)]; omega) W h h1 h2)
    rw [blockL_length (txt_size true), show 128 / 128 = 1 from rfl, show blocksN (blockL (txt true)) turnedN 1 = truncN true from rfl] at HQ
    have HL := Lib.hid (blockL_length (txt_size true))
    generalize blockL (txt true) = bl at *
    generalize truncN true = X at *
    generalize txt true = tx at *
    go_enter Tryd.func8, Tryd.ntmps8
    go_wp2_with fail
    have r1 : RowOk (w.alloc (.cells (uTab 8 fun _ => 0) 24)) w.heap.size 8 := (RowOk_alloc_at rfl).2 (uTab_size _ _)
    have HB0 := Lib.hid ((Below.refl w.heap.size w).alloc (Nat.le_refl _) (.cells (uTab 8 fun _ => 0) 24))
    refine (HF.out _).mono ?_
    rintro e w1 ⟨rfl, hb1⟩
    have T0 : TB w (w1.alloc (.cells (uTab 8 (firstN 512)) 24)) w1.heap.size (uTab 8 (xTo 0)) := by
      have q := (row_below ⟨r1, rfl⟩ hb1).1
      have hs := HB0.out.trans (hb1.mono (by simp))
      rw [xTo_zero]
      exact ⟨hs.alloc hs.size _, (RowOk_alloc_past q.lt).2 q, (RowOk_alloc_at rfl).2 (uTab_size _ _), rowAt_alloc_at rfl, q.lt⟩
    have HT0 := Lib.hid T0
    clear T0 hb1 HB0 r1 HF
    go_wp2_with fail
    generalize w1.alloc (.cells (uTab 8 (firstN 512)) 24) = W1 at *
    generalize w1.heap.size = b at *
    go_loopg [14] 8 (fun g i wr => ∃ j : Nat, j + g = 8 ∧ i = .int .i64 (j : Nat) ∧ Hid (TB w wr b (uTab 8 (xTo j))))
    case atStart => exact ⟨0, by omega, rfl, HT0⟩
    case round =>
      clear HT0
      obtain ⟨j, hj, rfl, HR⟩ := hrel
      by_cases hj8 : j < 8
      · obtain ⟨g, rfl⟩ : ∃ g, gk = g + 1 := ⟨gk - 1, by omega⟩
        obtain ⟨t, hgW, -⟩ := HR.out.val.heap
        rw [HR.out.cells] at hgW
        have f2 : wr.cell? ⟨b, j, none⟩ = some (.int .u64 (xTo j j : Nat)) := (cell_of_row _ _ j _ _ _ hgW).trans (uTab_at 8 _ j hj8)
        rw [xTo_here] at f2
        have f3 : wr.frozen? ⟨b, j, none⟩ = false := frozen_row hgW
        have hx := firstN_lt 512 j
        have f4 : wr.setCell ⟨b, j, none⟩ (.int .u64 (turnedN j : Nat)) = wr.setRow b (uTab 8 (xTo (j + 1))) := by
          rw [setCell_eq_setRow _ _ _ _ _ _ _ hgW, xTo_step j _ rfl]
        have hxor : bits .xor .u64 (firstN 512 j : Nat) 11936128518282651045 = (turnedN j : Nat) := by
          rw [show (11936128518282651045 : Int) = ((11936128518282651045 : Nat) : Int) from rfl, u64_xor_nat _ _ hx (by decide)]; rfl
        have HR2 := Lib.hid (HR.out.set (u' := uTab 8 (xTo (j + 1))) (uTab_size _ _))
        have F4 := Lib.hid f4
        have hy := turnedN_lt j
        clear f4 hgW HR
        generalize hW9 : wr.setRow b (uTab 8 (xTo (j + 1))) = W9 at *
        have f4 := F4.out
        clear F4
        generalize turnedN j = y at *
        generalize firstN 512 j = x at *
        go_wp2
        go_roundg g
        case measure => omega
        case rel => exact ⟨j + 1, by omega, by go_num, HR2⟩
      · obtain rfl : j = 8 := by omega
        have T1 := HR.out
        rw [xTo_full] at T1
        have C1 : ∀ W, TB w W b (uTab 8 turnedN) → RowOk W b 8 := fun W h => h.val
        have C2 : ∀ W, TB w W b (uTab 8 turnedN) → rowAt W b = uTab 8 turnedN := fun W h => h.cells
        have C3 : ∀ W, TB w W b (uTab 8 turnedN) → RowOk W w.heap.size 8 := fun W h => h.res
        have hA := HA.out
        clear HR
        go_wp2
        go_region_held3 (fun W => TB w W b (uTab 8 turnedN))
          (first | exact T1.call ((Below.refl _ _).drewN 1) | assumption | exact TB.call (by assumption) hq1 | exact TB.call (by assumption) hq2 | exact TB.call (by assumption) hq3 | exact TB.setRes (by assumption) (uTab_size _ _) | fail)
          (first
            | (go_at_call 18; (with_reducible refine (HI.out _ (ht.below (TB.below (by assumption))).ten).mono ?_); rintro e u1 ⟨rfl, hq1⟩)
            | (go_at_call 17; (with_reducible refine (HBk.out _).mono ?_); rintro e u2 ⟨A2, c2, rfl, hrow2, hw2, hq2⟩; rw [HL.out]; have hcap2 := hrow2.capOk; rw [HL.out] at hcap2; clear hrow2)
            | (go_at_call 16; (with_reducible refine (HQ.out _ _ _ (by assumption) (ht.below (TB.below (by assumption))).sig (ht.below (TB.below (by assumption))).ktab hcap2.1 hcap2.2).mono ?_); rintro e u3 ⟨rfl, hq3⟩; have hres3 := TB.res (TB.call (w := w) (b := b) (u := uTab 8 turnedN) (by assumption) hq3))
            | fail)
        have hT3 : TB w (u3.setRow w.heap.size (uTab 8 X)) b (uTab 8 turnedN) := by assumption
        obtain ⟨tt, hg3, -⟩ := ((RowOk_setRow_at hres3).2 (uTab_size 8 X)).heap
        rw [rowAt_setRow_at hres3] at hg3
        have HG3 := Lib.hid hg3
        have HB3 := Lib.hid hT3.below
        clear hT3 hg3
        go_wp2
        exact bodyPost_ret (L64.results_row_tmp8 (p := 2) (q := 3) rfl _ _ w.heap.size tt _ (0, 0) _ rfl HG3.out Tryd.underlying24 rfl (by kernel_rfl)) rfl ⟨rfl, HB3.out⟩
  | false =>
    rw [show tI false = 256 from rfl]
    rw [hsh] at HI HBk HS HA
    rw [show tI false = 256 from rfl] at HI
    generalize tS false = sx at *
    have HQ := Lib.hid (fun A c W h h1 h2 hc hm => blocks_any turnedN turnedN_lt A c (blockL (txt false)) (blockL_lt _) (by rw [blockL_length (txt_size false)]; exact hc) hm (by rw [blockL_length (txt_size false)]; omega) W h h1 h2)
    rw [blockL_length (txt_size false), show 128 / 128 = 1 from rfl, show blocksN (blockL (txt false)) turnedN 1 = truncN false from rfl] at HQ
    have HL := Lib.hid (blockL_length (txt_size false))
    generalize blockL (txt false) = bl at *
    generalize truncN false = X at *
    generalize txt false = tx at *
    go_enter Tryd.func8, Tryd.ntmps8
    go_wp2_with fail
    have r1 : RowOk (w.alloc (.cells (uTab 8 fun _ => 0) 24)) w.heap.size 8 := (RowOk_alloc_at rfl).2 (uTab_size _ _)
    have HB0 := Lib.hid ((Below.refl w.heap.size w).alloc (Nat.le_refl _) (.cells (uTab 8 fun _ => 0) 24))
    refine (HF.out _).mono ?_
    rintro e w1 ⟨rfl, hb1⟩
    have T0 : TB w (w1.alloc (.cells (uTab 8 (firstN 512)) 24)) w1.heap.size (uTab 8 (xTo 0)) := by
      have q := (row_below ⟨r1, rfl⟩ hb1).1
      have hs := HB0.out.trans (hb1.mono (by simp))
      rw [xTo_zero]
      exact ⟨hs.alloc hs.size _, (RowOk_alloc_past q.lt).2 q, (RowOk_alloc_at rfl).2 (uTab_size _ _), rowAt_alloc_at rfl, q.lt⟩
    have HT0 := Lib.hid T0
    clear T0 hb1 HB0 r1 HF
    go_wp2_with fail
    generalize w1.alloc (.cells (uTab 8 (firstN 512)) 24) = W1 at *
    generalize w1.heap.size = b at *
    go_loopg [14] 8 (fun g i wr => ∃ j : Nat, j + g = 8 ∧ i = .int .i64 (j : Nat) ∧ Hid (TB w wr b (uTab 8 (xTo j))))
    case atStart => exact ⟨0, by omega, rfl, HT0⟩
    case round =>
      clear HT0
      obtain ⟨j, hj, rfl, HR⟩ := hrel
      by_cases hj8 : j < 8
      · obtain ⟨g, rfl⟩ : ∃ g, gk = g + 1 := ⟨gk - 1, by omega⟩
        obtain ⟨t, hgW, -⟩ := HR.out.val.heap
        rw [HR.out.cells] at hgW
        have f2 : wr.cell? ⟨b, j, none⟩ = some (.int .u64 (xTo j j : Nat)) := (cell_of_row _ _ j _ _ _ hgW).trans (uTab_at 8 _ j hj8)
        rw [xTo_here] at f2
        have f3 : wr.frozen? ⟨b, j, none⟩ = false := frozen_row hgW
        have hx := firstN_lt 512 j
        have f4 : wr.setCell ⟨b, j, none⟩ (.int .u64 (turnedN j : Nat)) = wr.setRow b (uTab 8 (xTo (j + 1))) := by
          rw [setCell_eq_setRow _ _ _ _ _ _ _ hgW, xTo_step j _ rfl]
        have hxor : bits .xor .u64 (firstN 512 j : Nat) 11936128518282651045 = (turnedN j : Nat) := by
          rw [show (11936128518282651045 : Int) = ((11936128518282651045 : Nat) : Int) from rfl, u64_xor_nat _ _ hx (by decide)]; rfl
        have HR2 := Lib.hid (HR.out.set (u' := uTab 8 (xTo (j + 1))) (uTab_size _ _))
        have F4 := Lib.hid f4
        have hy := turnedN_lt j
        clear f4 hgW HR
        generalize hW9 : wr.setRow b (uTab 8 (xTo (j + 1))) = W9 at *
        have f4 := F4.out
        clear F4
        generalize turnedN j = y at *
        generalize firstN 512 j = x at *
        go_wp2
        go_roundg g
        case measure => omega
        case rel => exact ⟨j + 1, by omega, by go_num, HR2⟩
      · obtain rfl : j = 8 := by omega
        have T1 := HR.out
        rw [xTo_full] at T1
        have C1 : ∀ W, TB w W b (uTab 8 turnedN) → RowOk W b 8 := fun W h => h.val
        have C2 : ∀ W, TB w W b (uTab 8 turnedN) → rowAt W b = uTab 8 turnedN := fun W h => h.cells
        have C3 : ∀ W, TB w W b (uTab 8 turnedN) → RowOk W w.heap.size 8 := fun W h => h.res
        have hA := HA.out
        clear HR
        go_wp2
        go_region_held3 (fun W => TB w W b (uTab 8 turnedN))
          (first | exact T1.call ((Below.refl _ _).drewN 1) | assumption | exact TB.call (by assumption) hq1 | exact TB.call (by assumption) hq2 | exact TB.call (by assumption) hq3 | exact TB.setRes (by assumption) (uTab_size _ _) | fail)
          (first
            | (go_at_call 18; (with_reducible refine (HI.out _ (ht.below (TB.below (by assumption))).ten).mono ?_); rintro e u1 ⟨rfl, hq1⟩)
            | (go_at_call 17; (with_reducible refine (HBk.out _).mono ?_); rintro e u2 ⟨A2, c2, rfl, hrow2, hw2, hq2⟩; rw [HL.out]; have hcap2 := hrow2.capOk; rw [HL.out] at hcap2; clear hrow2)
            | (go_at_call 16; (with_reducible refine (HQ.out _ _ _ (by assumption) (ht.below (TB.below (by assumption))).sig (ht.below (TB.below (by assumption))).ktab hcap2.1 hcap2.2).mono ?_); rintro e u3 ⟨rfl, hq3⟩; have hres3 := TB.res (TB.call (w := w) (b := b) (u := uTab 8 turnedN) (by assumption) hq3))
            | fail)
        have hT3 : TB w (u3.setRow w.heap.size (uTab 8 X)) b (uTab 8 turnedN) := by assumption
        obtain ⟨tt, hg3, -⟩ := ((RowOk_setRow_at hres3).2 (uTab_size 8 X)).heap
        rw [rowAt_setRow_at hres3] at hg3
        have HG3 := Lib.hid hg3
        have HB3 := Lib.hid hT3.below
        clear hT3 hg3
        go_wp2
        exact bodyPost_ret (L64.results_row_tmp8 (p := 2) (q := 3) rfl _ _ w.heap.size tt _ (0, 0) _ rfl HG3.out Tryd.underlying24 rfl (by kernel_rfl)) rfl ⟨rfl, HB3.out⟩
end Go.Proofs.YtechcmjmdepglaaDoor
