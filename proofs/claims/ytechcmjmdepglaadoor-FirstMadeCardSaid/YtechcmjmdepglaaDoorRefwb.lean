/- Layer 8: wide: the document's own value with all blocks. -/
import Derived.Test.YtechcmjmdepglaaDoorWblks
import Derived.Test.YtechcmjmdepglaaDoorRefwr
import Derived.Test.YtechcmjmdepglaaDoorRefws
namespace Go.Proofs.YtechcmjmdepglaaDoor.L64
open Go.RowKit
set_option linter.unusedVariables false
set_option linter.unusedSimpArgs false
attribute [local go_sem ↓] cut_hide
theorem refRound_any (v : Nat → Nat) (hv : Lt64 v) (k x : Nat) (hk : k < 18446744073709551616) (hx : x < 18446744073709551616) (w : World) :
    Calls Tryd.prog 21 #[.agg (uTab 8 v), .int .u64 (k : Int), .int .u64 (x : Int)] w fun y w' => y = .returned (.agg (uTab 8 (roundN v k x))) ∧ Below w.heap.size w w' :=
  refRound_core (v 0) (v 1) (v 2) (v 3) (v 4) (v 5) (v 6) (v 7) k x (hv 0) (hv 1) (hv 2) (hv 3) (hv 4) (hv 5) (hv 6) (hv 7) hk hx w
theorem words_at {w : World} {gb go : Nat} {ys : List Nat} {n : Nat} {F : Nat → Nat} (h : Words .u64 w (some ⟨gb, go, none⟩) ys) (hl : ys.length = n) (hF : ∀ i, ys.getD i 0 = F i) :
    ∀ i, i < n → w.cell? ⟨gb, go + i, none⟩ = some (.int .u64 (F i : Nat)) := fun i hi => by
  obtain ⟨b, o, e1, hc⟩ := h i (by omega)
  injection e1 with e1
  injection e1 with e1 e4 _
  subst e1; subst e4
  rw [hc, hF]
/-- .. and, in a round: the row that goes on, and the schedule's words. -/
structure BX (w W : World) (b bk : Nat) (u : Array Value) (m : Nat) (x : Array Value) (gb go : Nat) (F : Nat → Nat) : Prop where
  bb : BB w W b bk u
  row : RowOk W m 8 ∧ rowAt W m = x
  ws : ∀ i, i < 80 → W.cell? ⟨gb, go + i, none⟩ = some (.int .u64 (F i : Nat))
  gm : gb ≠ m
  gl : gb < W.heap.size
  mb : m ≠ b ∧ m ≠ b + 1 ∧ m ≠ bk
  lo : w.heap.size ≤ m
theorem BX.call {w W W' : World} {b bk : Nat} {u : Array Value} {m : Nat} {x : Array Value} {gb go : Nat} {F : Nat → Nat} (h : BX w W b bk u m x gb go F) (hb : Below W.heap.size W W') : BX w W' b bk u m x gb go F :=
  ⟨h.bb.call hb, row_below h.row hb, fun i hi => (hb.cell (p := ⟨gb, go + i, none⟩) h.gl).trans (h.ws i hi), h.gm, Nat.lt_of_lt_of_le h.gl hb.size, h.mb, h.lo⟩
theorem BX.setx {w W : World} {b bk : Nat} {u : Array Value} {m : Nat} {x : Array Value} {gb go : Nat} {F : Nat → Nat} (h : BX w W b bk u m x gb go F) (x' : Array Value) (hx : x'.size = 8) : BX w (W.setRow m x') b bk u m x' gb go F := by
  have q := row_other (c' := x') ⟨h.bb.val, h.bb.cells⟩ (fun e => h.mb.1 e.symm)
  exact ⟨⟨below_setRow h.bb.below h.lo _, q.1, q.2, h.bb.res.other (fun e => h.mb.2.1 e.symm), row_other h.bb.ks (fun e => h.mb.2.2 e.symm), h.bb.low, h.bb.far⟩,
    ⟨(RowOk_setRow_at h.row.1).2 hx, rowAt_setRow_at h.row.1⟩, fun i hi => (cell_setRow_other W m _ ⟨gb, go + i, none⟩ h.gm).trans (h.ws i hi), h.gm, by simpa [World.setRow] using h.gl, h.mb, h.lo⟩
/-- .. and, at the end of a round: the value is added to. -/
structure BV (w W : World) (b bk : Nat) (u : Array Value) (m : Nat) (x : Array Value) : Prop where
  bb : BB w W b bk u
  row : RowOk W m 8 ∧ rowAt W m = x
  mb : m ≠ b
theorem BV.drew {w W : World} {b bk : Nat} {u : Array Value} {m : Nat} {x : Array Value} (h : BV w W b bk u m x) : BV w W.drew b bk u m x :=
  ⟨h.bb.call ((Below.refl _ _).drewN 1), row_below h.row ((Below.refl _ _).drewN 1), h.mb⟩
theorem BV.set {w W : World} {b bk : Nat} {u : Array Value} {m : Nat} {x : Array Value} (h : BV w W b bk u m x) (u' : Array Value) (hu : u'.size = 8) : BV w (W.setRow b u') b bk u' m x :=
  ⟨h.bb.set u' hu, row_other h.row h.mb, h.mb⟩
set_option maxRecDepth 20000 in
set_option maxHeartbeats 600000 in
theorem refBlocks_any (v : Nat → Nat) (hv : Lt64 v) (A : Option Addr) (c : Nat) (xs : List Nat) (hx : AllLt 256 xs) (hlc : xs.length ≤ c) (hcm : c ≤ maxLen) (hb : xs.length ≤ 140737488351232) (w : World) (hw : Words .u8 w A xs) :
    Calls Tryd.prog 13 #[.agg (uTab 8 v), .slice A xs.length c] w fun y w' => y = .returned (.agg (uTab 8 (blocksN xs v (xs.length / 128)))) ∧ Below w.heap.size w w' := by
  have HK := Lib.hid (fun w => refK64_any w)
  go_enter Tryd.func13, Tryd.ntmps13
  go_wp2_with fail
  obtain ⟨W, hW⟩ : ∃ W, W = (w.alloc (.cells (uTab 8 v) 24)).alloc (.cells #[.int .u64 0, .int .u64 0, .int .u64 0, .int .u64 0, .int .u64 0, .int .u64 0, .int .u64 0, .int .u64 0] 24) := ⟨_, rfl⟩
  rw [← hW]
  have hB0 : Below w.heap.size w W := by rw [hW]; exact ((Below.refl _ w).alloc (Nat.le_refl _) _).alloc (by simp) _
  have h1 : RowOk W w.heap.size 8 := by rw [hW]; exact (RowOk_alloc_past (by simp)).2 ((RowOk_alloc_at rfl).2 (uTab_size _ _))
  have h2 : rowAt W w.heap.size = uTab 8 v := by rw [hW, rowAt_alloc_past (by simp), rowAt_alloc_at rfl]
  have h3 : RowOk W (w.heap.size + 1) 8 := by rw [hW]; exact (RowOk_alloc_at (by simp)).2 rfl
  clear hW
  refine (HK.out W).mono ?_
  rintro e w1 ⟨rfl, rfl⟩
  have B0 : BB w (W.alloc (.cells (uTab 80 kN) 23)) w.heap.size W.heap.size (uTab 8 v) :=
    ⟨hB0.alloc hB0.size _, (RowOk_alloc_past h1.lt).2 h1, (rowAt_alloc_past h1.lt).trans h2, (RowOk_alloc_past h3.lt).2 h3, ⟨(RowOk_alloc_at rfl).2 (uTab_size _ _), rowAt_alloc_at rfl⟩, Nat.le_refl _, h3.lt⟩
  have HB0 := Lib.hid B0
  clear B0 h1 h2 h3 hB0 HK
  generalize W.alloc (.cells (uTab 80 kN) 23) = W1 at *
  generalize W.heap.size = bk at *
  have hd := Nat.div_mul_le_self xs.length 128
  go_wp2_with fail
  go_loopg [6] (xs.length / 128) (fun g i wr => ∃ n at0 : Nat, n + g = xs.length / 128 ∧ Hid (at0 = n * 128) ∧ i = .int .i64 (at0 : Nat) ∧ Hid (BB w wr w.heap.size bk (uTab 8 (blocksN xs v n))))
  case atStart => exact ⟨0, 0, by omega, rfl, rfl, HB0⟩
  case round =>
    clear HB0
    obtain ⟨n, at0, hn, hat0, rfl, HR⟩ := hrel
    have hat := hat0.out
    have R0 := HR.out
    have hwr := hw.below R0.below (Nat.le_refl _)
    by_cases hlt : n < xs.length / 128
    · obtain ⟨g, rfl⟩ : ∃ g, gk = g + 1 := ⟨gk - 1, by omega⟩
      obtain ⟨at2, e2⟩ : ∃ at2, at2 = at0 + 128 := ⟨_, rfl⟩
      have hl : at2 ≤ xs.length := by omega
      obtain ⟨A2, hcut, hwc⟩ := cut_any wr A c xs hwr hlc hcm at0 at2 (by omega) hl
      have hch : (xs.drop at0).take (at2 - at0) = chunk 128 xs n := by unfold chunk; rw [hat, show at2 - n * 128 = 128 by omega]
      rw [hch] at hwc
      have h128 : (chunk 128 xs n).length = 128 := chunk_length 128 xs n hlt
      have hwrap : IntKind.i64.wrap ((at0 : Int) + 128) = (at2 : Nat) := by rw [IntKind.wrap_i64]; omega
      have hle : (at2 : Int) ≤ (xs.length : Int) := by omega
      rw [show at2 - at0 = 128 by omega] at hcut
      have HS0 := refSchedule_any A2 (c - at0) (chunk 128 xs n) (chunk_lt hx n) h128 wr hwc
      rw [h128] at HS0
      have HS := Lib.hid HS0
      have hls : (sch (chunk 128 xs n)).length = 80 := sch_length h128
      have hFl : Lt64 (sF (chunk 128 xs n)) := sF_lt (chunk_lt hx n)
      have HFD := Lib.hid (show ∀ i, (sch (chunk 128 xs n)).getD i 0 = sF (chunk 128 xs n) i from fun i => rfl)
      have HBL := Lib.hid (show blocksN xs v (n + 1) = blockN kN (sF (chunk 128 xs n)) (blocksN xs v n) from rfl)
      have HVL := blocksN_lt (b := xs) hv n
      have E2 := Lib.hid e2
      have HR0 := Lib.hid R0
      clear HS0 hch hwc e2 hat R0 hwr HR
      generalize sF (chunk 128 xs n) = F at *
      generalize blocksN xs v n = V at *
      go_wp2_with fail
      refine HS.out.mono ?_
      rintro e w2 ⟨A3, c3, rfl, hr3, hw3, hb3⟩
      rw [hls]
      obtain ⟨gb, go, rfl, hgl, -⟩ := hw3.block (i := 0) (by omega)
      have hws := words_at hw3 hls HFD.out
      have B2 := HR0.out.call hb3
      have f1 := B2.val
      have f2 := B2.cells
      have X0 : BX w (w2.alloc (.cells (uTab 8 V) 24)) w.heap.size bk (uTab 8 V) w2.heap.size (uTab 8 V) gb go F :=
        ⟨B2.alloc _, ⟨(RowOk_alloc_at rfl).2 (uTab_size _ _), rowAt_alloc_at rfl⟩, fun i hi => (World.cell?_alloc_lt _ _ _ hgl).trans (hws i hi), Nat.ne_of_lt hgl, by simp; omega, ⟨by have := B2.val.lt; omega, by have := B2.res.lt; omega, by have := B2.ks.1.lt; omega⟩, B2.below.size⟩
      have HX0 := Lib.hid X0
      clear HS hr3 hw3 hb3 hws B2 X0 HR0 HFD hgl
      go_wp2_with fail
      go_loopg [9] 80 (fun g i wr => ∃ j : Nat, j + g = 80 ∧ i = .int .i64 (j : Nat) ∧ Hid (BX w wr w.heap.size bk (uTab 8 V) w2.heap.size (uTab 8 (roundsN kN F V j)) gb go F))
      case atStart => exact ⟨0, by omega, rfl, HX0⟩
      case round =>
        clear HX0
        obtain ⟨j, hj, rfl, HX⟩ := hrel
        by_cases hj80 : j < 80
        · obtain ⟨g2, rfl⟩ : ∃ g2, gk = g2 + 1 := ⟨gk - 1, by omega⟩
          have X1 : BX w wr.drew w.heap.size bk (uTab 8 V) w2.heap.size (uTab 8 (roundsN kN F V j)) gb go F := HX.out.call ((Below.refl _ _).drewN 1)
          have a0 : (0 : Int) ≤ (j : Int) := by omega
          have b0 : (j : Int) < 80 := by omega
          have hn := X1.row.1
          have hnv := X1.row.2
          have hk : wr.drew.cell? ⟨bk, j, none⟩ = some (.int .u64 (kN j : Nat)) := by
            obtain ⟨t, hg, _⟩ := X1.bb.ks.1.heap
            rw [X1.bb.ks.2] at hg
            exact (cell_of_row _ _ _ _ _ _ hg).trans (uTab_at _ _ _ hj80)
          have hf := X1.ws j hj80
          have P2 := refRound_any (roundsN kN F V j) (roundsN_lt HVL j) (kN j) (F j) (kN_lt j) (hFl j) wr.drew
          have HX1 := Lib.hid X1
          have HP := Lib.hid P2
          clear X1 P2 HX
          go_wp2
          go_still_tail 9, (by kernel_rfl)
          change wpList _ _ _ _ _ wr.drew
          have P2 := HP.out
          have X1 := HX1.out
          clear hk hf hn hnv HX1 HP
          generalize wr.drew = W3 at *
          go_wp2_with fail
          refine P2.mono ?_
          rintro y u1 ⟨rfl, hb1⟩
          have X2 := X1.call hb1
          have hn := X2.row.1
          have X3 := Lib.hid (X2.setx (uTab 8 (roundN (roundsN kN F V j) (kN j) (F j))) (uTab_size _ _))
          clear X1 X2 hb1 P2
          go_wp2
          go_roundg g2
          case measure => omega
          case rel => exact ⟨j + 1, by omega, by go_num, X3⟩
        · obtain rfl : j = 80 := by omega
          have V0 : Hid (BV w wr w.heap.size bk (uTab 8 V) w2.heap.size (uTab 8 (roundsN kN F V 80))) := ⟨HX.out.bb, HX.out.row, HX.out.mb.1⟩
          clear HX
          go_wp2_with fail
          go_loopg [10] 8 (fun g i wr => ∃ j : Nat, j + g = 8 ∧ i = .int .i64 (j : Nat) ∧ Hid (BV w wr w.heap.size bk (uTab 8 fun i => if i < j then blockN kN F V i else V i) w2.heap.size (uTab 8 (roundsN kN F V 80))))
          case atStart => exact ⟨0, by omega, rfl, by rw [show (uTab 8 fun i => if i < 0 then blockN kN F V i else V i) = uTab 8 V from uTab_congr fun i _ => if_neg (by omega)]; exact V0⟩
          case round =>
            clear V0
            obtain ⟨i0, hi, rfl, HQ⟩ := hrel
            by_cases hi8 : i0 < 8
            · obtain ⟨g3, rfl⟩ : ∃ g3, gk = g3 + 1 := ⟨gk - 1, by omega⟩
              have R0 := HQ.out.drew
              have a0 : (0 : Int) ≤ (i0 : Int) := by omega
              have b0 : (i0 : Int) < 8 := by omega
              obtain ⟨q1, q2, q3⟩ := row_cell (i := i0) R0.bb.val R0.bb.cells ((uTab_at _ _ _ hi8).trans (by rw [if_neg (Nat.lt_irrefl i0)]))
              obtain ⟨t, hg, _⟩ := R0.row.1.heap
              rw [R0.row.2] at hg
              have hy : wr.drew.cell? ⟨w2.heap.size, i0, none⟩ = some (.int .u64 (roundsN kN F V 80 i0 : Nat)) := (cell_of_row _ _ _ _ _ _ hg).trans (uTab_at _ _ _ hi8)
              have SW := sum2_wrap (V i0) (roundsN kN F V 80 i0)
              have q4 : wr.drew.setCell ⟨w.heap.size, i0, none⟩ (.int .u64 (sumN [V i0, roundsN kN F V 80 i0] : Nat)) = wr.drew.setRow w.heap.size (uTab 8 fun i => if i < i0 + 1 then blockN kN F V i else V i) := by
                rw [q3, uTab8_set V (blockN kN F V) i0 ((sumN [V i0, roundsN kN F V 80 i0] : Nat) : Int) rfl]
              have R6 := Lib.hid (R0.set (uTab 8 fun i => if i < i0 + 1 then blockN kN F V i else V i) (uTab_size _ _))
              obtain ⟨W9, hW9⟩ : ∃ W9, W9 = wr.drew.setRow w.heap.size (uTab 8 fun i => if i < i0 + 1 then blockN kN F V i else V i) := ⟨_, rfl⟩
              rw [← hW9] at q4 R6
              clear hW9 hg q3 R0 HQ
              generalize roundsN kN F V 80 i0 = y0 at *
              generalize V i0 = x0 at *
              go_wp2
              go_still_tail 9, (by kernel_rfl)
              change wpList _ _ _ _ _ wr.drew
              generalize wr.drew = W3 at *
              go_wp2
              go_roundg g3
              case measure => omega
              case rel => exact ⟨i0 + 1, by omega, by go_num, R6⟩
            · obtain rfl : i0 = 8 := by omega
              have Q9 : Hid (BB w wr w.heap.size bk (uTab 8 (blocksN xs v (n + 1)))) := by
                have := HQ.out.bb
                rw [show (uTab 8 fun i => if i < 8 then blockN kN F V i else V i) = uTab 8 (blockN kN F V) from uTab_congr fun i hi => if_pos hi] at this
                rw [HBL.out]; exact this
              clear HQ
              go_wp2
              go_roundg g
              case measure => omega
              case rel => exact ⟨n + 1, at2, by omega, by rw [E2.out, hat0.out]; show _ = _; omega, by go_num, Q9⟩
    · obtain rfl : n = xs.length / 128 := by omega
      have hw2 : IntKind.i64.wrap ((at0 : Int) + 128) = (at0 : Int) + 128 := by rw [IntKind.wrap_i64]; omega
      have hnle : ¬ (at0 : Int) + 128 ≤ (xs.length : Int) := by omega
      have r1 := R0.res
      have r2 := R0.val
      have r3 := R0.cells
      have HR0 := Lib.hid R0
      clear R0 hwr HR hat
      go_wp2
      refine row_ret (P := Tryd.prog) (n := w.heap.size + 1) (p := 4) (k := 8) (c := uTab 8 (blocksN xs v (xs.length / 128))) rfl rfl
        ((RowOk_setRow_at r1).2 (uTab_size _ _)) (rowAt_setRow_at r1) Tryd.underlying24 rfl (by kernel_rfl) rfl
        ⟨rfl, below_setRow HR0.out.below (by omega) _⟩
end Go.Proofs.YtechcmjmdepglaaDoor.L64
