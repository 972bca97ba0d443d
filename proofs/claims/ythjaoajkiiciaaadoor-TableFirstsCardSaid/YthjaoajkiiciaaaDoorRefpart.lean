/- Layer 5: the document's own answers: what stands behind the point. -/
import Derived.Test.YthjaoajkiiciaaaDoorReflift
import Derived.Test.YthjaoajkiiciaaaDoorRootlaw
import Derived.Deep.LoopGhost
namespace Go.Proofs.YthjaoajkiiciaaaDoor
open Go.RowKit
set_option linter.unusedVariables false
set_option linter.unusedSimpArgs false

theorem pow65536 (n : Nat) : 65536 ^ (4 * n) = 18446744073709551616 ^ n := by rw [Nat.pow_mul]
/-- What the loop over the digits holds: of what stands behind the point, x, all but what U still bounds. -/
def PartTo (T n r x U : Nat) : Prop := x + U ≤ 18446744073709551616 ∧ (r * 18446744073709551616 + x) ^ n ≤ T ∧ T < (r * 18446744073709551616 + x + U) ^ n
theorem partTo_start {p n r U : Nat} (h1 : r ^ n ≤ p) (h2 : p < (r + 1) ^ n) (hU : U = 18446744073709551616) : PartTo (p * 18446744073709551616 ^ n) n r 0 U := by
  unfold PartTo
  rw [Nat.zero_add, Nat.add_zero, hU]
  refine ⟨Nat.le_refl _, ?_, ?_⟩
  · rw [Nat.mul_pow]; exact Nat.mul_le_mul_right _ h1
  · rw [← Nat.succ_mul, Nat.mul_pow]
    exact Nat.mul_lt_mul_of_pos_right h2 (Nat.pow_pos (by omega))
theorem partTo_next {T n r x P d : Nat} (hd : d ≤ 15) (h : PartTo T n r x (16 * P)) (h1 : (r * 18446744073709551616 + x + d * P) ^ n ≤ T) (h2 : T < (r * 18446744073709551616 + x + (d + 1) * P) ^ n) : PartTo T n r (x + d * P) P := by
  have hdp : d * P ≤ 15 * P := Nat.mul_le_mul_right _ hd
  refine ⟨by have := h.1; omega, by rw [← Nat.add_assoc]; exact h1, ?_⟩
  rw [← Nat.add_assoc, Nat.add_assoc _ (d * P), ← Nat.succ_mul]; exact h2
theorem part_root {p n r x R : Nat} (hr : r ≤ 1024) (hR : IsRoot n p R) (h : PartTo (p * 18446744073709551616 ^ n) n r x 1) : x = dgQ R 0 := by
  have h1 : IsRoot n p (r * 18446744073709551616 + x) := ⟨by have := h.1; omega, h.2.1, h.2.2⟩
  have := h1.uniq hR
  rw [dgQ_nil, ← this]
  have := h.1
  omega
/-! ### Digits laid into a row of four -/
def upF (ys : List Nat) (k : Nat) : Nat → Nat := fun j => if j < k then ys.getD j 0 else 0
theorem upF_zero (ys : List Nat) : uTab 4 (upF ys 0) = uTab 4 fun _ => 0 := tab_congr fun i _ => by unfold upF; rw [if_neg (by omega)]
theorem upF_step (ys : List Nat) (k : Nat) (u : Int) (hu : u = (ys.getD k 0 : Nat)) : (uTab 4 (upF ys k)).setIfInBounds k (.int .u64 u) = uTab 4 (upF ys (k + 1)) :=
  tab_set 4 _ _ k _ (by unfold upF; rw [if_pos (by omega), hu]) fun i _ hn => by unfold upF; by_cases h : i < k <;> simp [h, show i < k + 1 ↔ i < k by omega]
theorem upF_lt {ys : List Nat} (h : AllLt 65536 ys) (i : Nat) : upF ys ys.length i < 65536 := by
  unfold upF
  split
  · exact h.at (by assumption)
  · omega
theorem upF_val {ys : List Nat} (hl : ys.length ≤ 4) : valB (rowF 4 (upF ys ys.length)) = valB ys := by
  have h := trim_val (rowF 4 (upF ys ys.length)) ys.length (by rw [rowF_length]; exact hl) fun i h1 h2 => by
    rw [rowF_length] at h2
    unfold rowF
    rw [getD_map _ _ _ _ h2, upF, if_neg (by omega)]
  rw [← h]
  congr 1
  refine ext_getD (by rw [List.length_take, rowF_length]; omega) fun i hi => ?_
  rw [List.length_take, rowF_length] at hi
  rw [getD_take _ _ _ (by omega)]
  unfold rowF
  rw [getD_map _ _ _ _ (by omega), upF, if_pos (by omega)]
theorem row_four {w : World} {g : Nat} {t : TypeId} {f : Nat → Nat} (hg : w.heap[g]? = some (.cells (uTab 4 f) t (0, 0))) {base : Nat} (hb : base ≤ g) : Row .u64 t base w (.slice (some ⟨g, 0, none⟩) 4 4) (rowF 4 f) := by
  unfold Row
  rw [rowF_length]
  refine ⟨by rw [cellsOf_length, rowF_length], .inr ⟨g, 4, _, rfl, hb, hg, by omega, by unfold maxLen; omega, uTab_size _ _, ?_⟩⟩
  apply List.ext_getElem?
  intro i
  by_cases h : i < 4
  · rw [List.getElem?_take_of_lt (by omega), Array.getElem?_toList, uTab_at 4 f i h, cellsOf_at _ _ _ (by rw [rowF_length]; exact h)]
    unfold rowF
    rw [getD_map _ _ _ _ h]
  · rw [List.getElem?_eq_none (by rw [List.length_take]; omega), List.getElem?_eq_none (by rw [cellsOf_length, rowF_length]; omega)]
theorem frozen_row {w : World} {g i : Nat} {c : Array Value} {t : TypeId} (hg : w.heap[g]? = some (.cells c t (0, 0))) : w.frozen? ⟨g, i, none⟩ = false := by
  unfold World.frozen?
  simp [hg]
set_option maxRecDepth 20000 in
set_option maxHeartbeats 8000000 in
theorem refPart_any (p n R : Nat) (hn2 : 2 ≤ n) (hn : n ≤ 3) (hp : p ≤ 1048576) (hR : IsRoot n p R) (w : World) :
    Calls Tryd.prog 12 #[.int .u64 (p : Int), .int .i64 (n : Int)] w fun e w' => e = .returned (.int .u64 (dgQ R 0 : Nat)) ∧ Below w.heap.size w w' := by
  obtain ⟨i0, hi0, hz0, hz1, hz2⟩ := info_parts5 u64_info5
  have HOF := Lib.hid (fun x hx W => numOf_any x hx W)
  have HR := Lib.hid hR
  clear hR
  have hmk : ∀ W : World, (Instr.makeSlice 41 (.int .i64 4) (.int .i64 4)).run Tryd.prog W = .ok (.slice (some ⟨W.heap.size, 0, none⟩) 4 4) (W.alloc (.cells (uTab 4 fun _ => 0) 23)) := fun W => by
    rw [← uTab_zeros]
    exact make_at (P := Tryd.prog) W (t := 41) Tryd.underlying41 hi0 hz0 hz1 _ _ 4 4 rfl rfl (Nat.le_refl _) (by rw [hz2]; omega) (by unfold maxLen; omega)
  go_enter Tryd.func12, Tryd.ntmps12
  go_wp2_with fail
  refine (HOF.out p (by omega) _).mono ?_
  rintro e w1 ⟨ps, hps, hpl, A1, c1, rfl, hr1, hw1, hb1⟩
  have HL := Lib.hid (lifted_any p n hn A1 c1 ps hr1.nilOk hps (by omega) w1 hw1)
  have HB1 := Lib.hid hb1
  clear hps hr1 hw1 hb1
  go_wp2_with fail
  refine HL.out.mono ?_
  rintro e w2 ⟨A2, c2, ls, rfl, hls, hll, hw2, hlc, hlm, hb2⟩
  rw [pow65536] at hls
  have HLS := Lib.hid hls
  have HB2 := Lib.hid (HB1.out.trans (hb2.mono HB1.out.size))
  have HW2 := Lib.hid hw2
  clear hls hb2 hw2
  have HWH := Lib.hid (refWhole_any p n (by omega) hn hp w2)
  go_wp2_with fail
  refine HWH.out.mono ?_
  rintro e w3 ⟨⟨r, rfl, hr1, hr2⟩, hb3⟩
  have HB3 := Lib.hid (HB2.out.trans (hb3.mono HB2.out.size))
  have HW3 := Lib.hid (HW2.out.below hb3 (Nat.le_refl _))
  have HST := Lib.hid (partTo_start (U := 16 ^ 16) hr1 hr2 (by decide +kernel))
  have hrb : r ≤ 1024 := by
    rcases (show n = 2 ∨ n = 3 by omega) with rfl | rfl
    · exact sq_le hr1 hp
    · exact Nat.le_trans (cb_le hr1 hp) (by omega)
  clear hb3 hr1 hr2
  have HRT := Lib.hid (fun x => part_root (x := x) hrb HR.out)
  obtain ⟨T, hT⟩ : ∃ T, T = p * 18446744073709551616 ^ n := ⟨_, rfl⟩
  rw [← hT] at HLS HST HRT
  clear hT HWH HL HW2 HB1 HB2
  go_wp2
  go_loopg [7, 8, 9] 16 (fun k x' pl i wr => ∃ j x : Nat, j + k = 16 ∧ i = .int .i64 (j : Int) ∧ x' = .int .u64 (x : Int) ∧ pl = .int .u64 ((16 ^ k / 16 : Nat) : Int) ∧ Hid (PartTo T n r x (16 ^ k)) ∧ Hid (Words .u64 wr A2 ls) ∧ Hid (Below w.heap.size w wr))
  case atStart => exact ⟨0, 0, by omega, rfl, rfl, by rw [show (16 : Nat) ^ 16 / 16 = 1152921504606846976 by decide +kernel]; rfl, HST, HW3, HB3⟩
  case round =>
    obtain ⟨j, x, hj, rfl, rfl, rfl, hpt, hwl, hB⟩ := hrel
    clear HST HW3 HB3
    by_cases hj16 : j < 16
    · obtain ⟨k, rfl⟩ : ∃ k, gk = k + 1 := ⟨gk - 1, by omega⟩
      have hpe : 16 ^ (k + 1) / 16 = 16 ^ k := by rw [Nat.pow_succ]; omega
      have hP1 : 16 ^ k ≤ 1152921504606846976 := by
        have h := Nat.pow_le_pow_right (n := 16) (by omega) (show k ≤ 15 by omega)
        have e : (16 : Nat) ^ 15 = 1152921504606846976 := by decide +kernel
        omega
      have hP0 : 0 < 16 ^ k := Nat.pow_pos (by omega)
      have HPT : Hid (PartTo T n r x (16 * 16 ^ k)) := by unfold Hid; rw [Nat.mul_comm, ← Nat.pow_succ]; exact hpt.out
      rw [hpe]
      clear hpe hpt
      have HNX : Hid (∀ y, PartTo T n r y (16 ^ k) → PartTo T n r y (16 ^ k)) := fun _ h => h
      obtain ⟨P, hP⟩ : ∃ P, P = 16 ^ k := ⟨_, rfl⟩
      have HPE := Lib.hid hP
      rw [← hP] at hP1 hP0 HPT ⊢
      clear hP HNX
      go_wp2
      rw [show decide ((j : Int) < 16) = true from decide_eq_true (by omega)]
      go_loopg [10] 15 (fun g d' wx => ∃ d : Nat, d + g = 15 ∧ d' = .int .u64 (d : Int) ∧ Hid ((r * 18446744073709551616 + x + d * P) ^ n ≤ T) ∧ Hid (Words .u64 wx A2 ls) ∧ Hid (Below w.heap.size w wx))
      case atStart => exact ⟨0, by omega, rfl, by rw [Nat.zero_mul, Nat.add_zero]; exact HPT.out.2.1, hwl, hB⟩
      case round =>
        clear hwl hB
        obtain ⟨d, hd, rfl, hle, hwl, hB⟩ := hrel
        have hxU := HPT.out.1
        have hdP : d * P ≤ 15 * P := Nat.mul_le_mul_right _ (by omega)
        by_cases hd15 : d < 15
        · have hm1 := mulC (d + 1) P
          rw [Int.natCast_add, Int.natCast_one] at hm1
          have hdP1 : (d + 1) * P ≤ 15 * P := Nat.mul_le_mul_right _ (by omega)
          have hYB : x + (d + 1) * P < 18446744073709551616 := by omega
          have HOV := Lib.hid (HOF.out (x + (d + 1) * P) hYB (wr.alloc (.cells (uTab 4 fun _ => 0) 23)))
          rw [Int.natCast_add] at HOV
          generalize hm : (d + 1) * P = m at *
          have HM := Lib.hid hm
          clear hm
          go_wp2_with fail
          refine HOV.out.mono ?_
          rintro e w4 ⟨ys, hys, hyl, A4, c4, rfl, hr4, hw4, hb4⟩
          have hg0 : (wr.alloc (.cells (uTab 4 fun _ => 0) 23)).heap[wr.heap.size]? = some (.cells (uTab 4 fun _ => 0) 23 (0, 0)) := heap_alloc_new _ _
          have hg4 : w4.heap[wr.heap.size]? = some (.cells (uTab 4 fun _ => 0) 23 (0, 0)) := (hb4.block _ (by simp)).trans hg0
          have HG4 := Lib.hid hg4
          have HB4 := Lib.hid (((Below.refl wr.heap.size wr).alloc (Nat.le_refl _) (.cells (uTab 4 fun _ => 0) 23)).trans (hb4.mono (by simp)))
          have HYS := Lib.hid hys
          have HW4 := Lib.hid hw4
          have HR4 := Lib.hid hr4
          have hs0 : w4.setRow wr.heap.size (uTab 4 (upF ys 0)) = w4 := by rw [upF_zero]; exact setRow_self _ _ _ _ _ hg4
          have HS0 := Lib.hid hs0
          have hbase : wr.heap.size + 1 ≤ (wr.alloc (.cells (uTab 4 fun _ => 0) 23)).heap.size := by simp
          have HG5 := Lib.hid (fun g o (h : A4 = some ⟨g, o, none⟩) => Nat.lt_of_lt_of_le hbase (World.ownsRow.lt hr4 g (by rw [h]; rfl)).1)
          have hnk := hr4.nilOk
          clear hg0 hg4 hys hw4 hr4 hb4 hs0 hbase HR4
          generalize hb1e : wr.heap.size = b1 at *
          have HBE := Lib.hid hb1e
          clear hb1e
          go_wp2
          go_loopg [36] ys.length (fun g i wz => ∃ q : Nat, q + g = ys.length ∧ i = .int .i64 (q : Int) ∧ wz = w4.setRow b1 (uTab 4 (upF ys q)))
          case atStart => exact ⟨0, by omega, rfl, HS0.out.symm⟩
          case round =>
            obtain ⟨q, hq, rfl, rfl⟩ := hrel
            have hgW := setRow_heap w4 b1 _ (uTab 4 (upF ys q)) _ _ HG4.out
            by_cases hql : q < ys.length
            · obtain ⟨g2, rfl⟩ : ∃ g2, gk = g2 + 1 := ⟨gk - 1, by omega⟩
              obtain ⟨gs, os, rfl, hgs, hc⟩ := HW4.out.block (i := q) hql
              have hne := HG5.out gs os rfl
              have f1 : (w4.setRow b1 (uTab 4 (upF ys q))).cell? ⟨gs, os + q, none⟩ = some (.int .u64 (ys.getD q 0 : Nat)) := (cell_setRow_other w4 b1 _ ⟨gs, os + q, none⟩ (Nat.ne_of_gt hne)).trans hc
              have f2 : (w4.setRow b1 (uTab 4 (upF ys q))).cell? ⟨b1, q, none⟩ = some (.int .u64 (upF ys q q : Nat)) := (cell_of_row _ _ q _ _ _ hgW).trans (uTab_at 4 _ q (by omega))
              have f3 : (w4.setRow b1 (uTab 4 (upF ys q))).frozen? ⟨b1, q, none⟩ = false := frozen_row hgW
              have f4 : (w4.setRow b1 (uTab 4 (upF ys q))).setCell ⟨b1, q, none⟩ (.int .u64 (ys.getD q 0 : Nat)) = w4.setRow b1 (uTab 4 (upF ys (q + 1))) := by
                rw [setCell_eq_setRow _ _ _ _ _ _ _ hgW, setRow_setRow, upF_step ys q _ rfl]
              have F4 := Lib.hid f4
              clear hc f4 hgW
              generalize w4.setRow b1 (uTab 4 (upF ys q)) = WZ at *
              generalize ys.getD q 0 = y at *
              generalize upF ys q q = y0 at *
              go_wp2
              go_roundg g2
              case measure => omega
              case rel => exact ⟨q + 1, by omega, by go_num, F4.out⟩
            · obtain rfl : q = ys.length := by omega
              have hRW := row_four (base := b1) hgW (Nat.le_refl _)
              have hBW := below_setRow HB4.out (Nat.le_refl b1) (uTab 4 (upF ys ys.length))
              have hVZ := upF_val hyl
              have hAL := rowF_lt (n := 4) (upF_lt HYS.out.1)
              rw [HYS.out.2.2] at hVZ
              have hlz : (rowF 4 (upF ys ys.length)).length = 4 := rowF_length _ _
              have HRW := Lib.hid hRW
              have HBW := Lib.hid hBW
              have HVZ := Lib.hid hVZ
              have HALZ := Lib.hid hAL
              have hszW : b1 ≤ (w4.setRow b1 (uTab 4 (upF ys ys.length))).heap.size := by rw [size_setRow]; have := HBE.out; have := HB4.out.size; omega
              clear hgW hRW hBW hVZ hAL HG4 HS0 HB4 HG5 HW4
              have HOR := Lib.hid (HOF.out r (by omega) (w4.setRow b1 (uTab 4 (upF ys ys.length))))
              generalize w4.setRow b1 (uTab 4 (upF ys ys.length)) = WZ at *
              generalize rowF 4 (upF ys ys.length) = zs at *
              go_wp2_with fail
              refine HOR.out.mono ?_
              rintro e w5 ⟨rs, hrs, hrl, A5, c5, rfl, hr5, hw5, hb5⟩
              have HRW5 := Lib.hid (HRW.out.below hb5 (Nat.le_refl _))
              have HB5 := Lib.hid (HBW.out.trans (hb5.mono hszW))
              have hsz5 : b1 ≤ w5.heap.size := Nat.le_trans hszW hb5.size
              have hnil5 := Lib.hid hr5.nilOk
              have HW5 := Lib.hid hw5
              have HRS := Lib.hid hrs
              clear hr5 hw5 hb5 hrs HRW HBW hszW HOR
              obtain ⟨us, hus⟩ : ∃ us, us = zs ++ rs := ⟨_, rfl⟩
              have HUL : Hid (us.length = 4 + rs.length) := by rw [hus]; unfold Hid; rw [List.length_append, hlz]
              have HUA : Hid (AllLt 65536 us) := by rw [hus]; exact HALZ.out.append HRS.out.1
              have HUV : Hid (valB us = r * 18446744073709551616 + x + m) := by
                unfold Hid
                rw [hus, valB_append, hlz, HVZ.out, HRS.out.2.2]
                have e : (65536 : Nat) ^ 4 = 18446744073709551616 := by decide +kernel
                rw [e, Nat.mul_comm]; omega
              have HUS := Lib.hid hus
              clear hus
              go_wp2_with (at_builtin; refine append_words rfl _ _ 41 rfl b1 23 i0 Tryd.underlying41 hi0 hz0 hz1 hz2 (.slice (some ⟨b1, 0, none⟩) 4 4) zs rfl HRW5.out A5 c5 rs rfl hnil5.out HW5.out (by omega) hsz5 ?_; intro v' w6 hrow hgrow; have HB6 := Lib.hid (Row.grown0 HRW5.out HB5.out hsz5 hgrow); have HR6 := Lib.hid hrow; have hsz6 : b1 ≤ w6.heap.size := Nat.le_trans hsz5 hgrow.size; obtain ⟨A6, c6, hv6, hw6⟩ := hrow.words; subst hv6; clear hrow hgrow)
              have hcap := HR6.out.capOk
              rw [← HUS.out] at hw6 HR6 hcap
              have HT := trim_any A6 c6 us HUA.out hcap.1 hcap.2 w6 hw6
              rw [HUL.out] at HT
              have HW6 := Lib.hid hw6
              clear hw6
              refine HT.mono ?_
              rintro e w7 ⟨⟨k7, rfl, hk7, hnum⟩, rfl⟩
              have hl7 : (us.take k7).length = k7 := by rw [List.length_take, HUL.out, Nat.min_eq_left hk7]
              have HPW := pow_any (valB us) n hn A6 c6 (us.take k7) hnum (by omega) w6 (words_first HW6.out k7)
              rw [hl7, HUV.out] at HPW
              have HP7 := Lib.hid HPW
              have HN7 := Lib.hid hl7
              clear HPW hl7 hnum HT
              go_wp2_with fail
              refine HP7.out.mono ?_
              rintro e w8 ⟨A8, c8, vs, rfl, hvs, hvl, hw8, hvc, hvm, hb8⟩
              have hBW8 := HB6.out.trans (hb8.mono hsz6)
              have hwl8 := hwl.out.below hBW8 (Nat.le_of_eq HBE.out)
              have HWL8 := Lib.hid hwl8
              have HB8 := Lib.hid (hB.out.trans (hBW8.mono (by rw [← HBE.out]; exact hB.out.size)))
              have HMO := more_any _ T A8 c8 vs hvs (by unfold maxLen; omega) A2 c2 ls HLS.out (by unfold maxLen; omega) w8 hw8 hwl8
              clear hvs hw8 hb8 hBW8 hwl8 hwl hB
              by_cases hm : T < (r * 18446744073709551616 + x + m) ^ n
              · have HNX := Lib.hid (partTo_next (d := d) (by omega) HPT.out hle.out (by rw [HM.out]; exact hm))
                rw [show moreB ((r * 18446744073709551616 + x + m) ^ n) T = true from decide_eq_true hm] at HMO
                have HMX := Lib.hid HMO
                clear hm HMO HUV HP7
                have hm0 := mulC d P
                have hmb := HNX.out.1
                have hPk : ((P : Int) / 16) = ((16 ^ k / 16 : Nat) : Int) := by rw [← HPE.out]; omega
                have HNXT : Hid (PartTo T n r (x + d * P) (16 ^ k)) := by rw [← HPE.out]; exact HNX.out
                have HPK := Lib.hid hPk
                clear HNX hPk
                generalize d * P = m0 at *
                go_wp2_with fail
                refine HMX.out.mono ?_
                rintro e w9 ⟨rfl, m9, rfl⟩
                go_wp2
                go_roundg k
                case measure => omega
                case rel => exact ⟨j + 1, x + m0, by omega, by go_num, by go_num, by rw [HPK.out], HNXT, HWL8.out.drewN m9, HB8.out.drewN m9⟩
              · have HLE : Hid ((r * 18446744073709551616 + x + (d + 1) * P) ^ n ≤ T) := by unfold Hid; rw [HM.out]; exact Nat.le_of_not_lt hm
                rw [show moreB ((r * 18446744073709551616 + x + m) ^ n) T = false from decide_eq_false hm] at HMO
                have HMX := Lib.hid HMO
                clear hm HMO HUV HP7
                obtain ⟨g9, hg9⟩ : ∃ g9, d + 1 + g9 = 15 := ⟨15 - (d + 1), by omega⟩
                go_wp2_with fail
                refine HMX.out.mono ?_
                rintro e w9 ⟨rfl, m9, rfl⟩
                go_wp2
                go_roundg g9
                case measure => omega
                case rel => exact ⟨d + 1, hg9, by go_num, HLE, HWL8.out.drewN m9, HB8.out.drewN m9⟩
        · have hd16 : d = 15 := by omega
          have HNX : Hid (PartTo T n r (x + d * P) P) := partTo_next (d := d) (by omega) HPT.out hle.out (by rw [hd16]; exact HPT.out.2.2)
          clear hd16
          have hm0 := mulC d P
          have hmb := HNX.out.1
          have hPk : ((P : Int) / 16) = ((16 ^ k / 16 : Nat) : Int) := by rw [← HPE.out]; omega
          have HNXT : Hid (PartTo T n r (x + d * P) (16 ^ k)) := by rw [← HPE.out]; exact HNX.out
          have HPK := Lib.hid hPk
          clear HNX hPk
          generalize d * P = m0 at *
          go_wp2
          go_roundg k
          case measure => omega
          case rel => exact ⟨j + 1, x + m0, by omega, by go_num, by go_num, by rw [HPK.out], HNXT, hwl.out, hB.out⟩
    · obtain rfl : gk = 0 := by omega
      have h := hpt.out
      rw [Nat.pow_zero] at h
      have hx := HRT.out x h
      clear h hpt
      subst hx
      go_wp2
      go_ret
      exact ⟨rfl, hB.out⟩
end Go.Proofs.YthjaoajkiiciaaaDoor
