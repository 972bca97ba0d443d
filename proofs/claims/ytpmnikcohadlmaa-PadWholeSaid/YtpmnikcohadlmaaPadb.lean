/- Layer 10: pad: Of. -/
import Derived.Test.YtpmnikcohadlmaaPada
namespace Go.Proofs.Ytpmnikcohadlmaa
open Go.RowKit
set_option linter.unusedVariables false
set_option linter.unusedSimpArgs false
/-- What the mark and the length's copy make of noughts. -/
theorem mark_splice (p t : Nat) (Y : List Nat) (hp : 0 < p) (hY : Y.length = t) :
    splice ((List.replicate (p + t) (Value.int .u8 0)).set 0 (.int .u8 128)) p (cellsOf .u8 Y) = cellsOf .u8 (128 :: (List.replicate (p - 1) 0 ++ Y)) := by
  obtain ⟨q, rfl⟩ : ∃ q, p = q + 1 := ⟨p - 1, by omega⟩
  unfold splice
  rw [show q + 1 + t = (q + t) + 1 by omega, List.replicate_succ, List.set_cons_zero, cellsOf_length, hY, List.take_succ_cons, List.take_replicate, Nat.min_eq_left (by omega), List.drop_eq_nil_of_le (by simp; omega), List.append_nil]
  simp [cellsOf, List.map_append, List.map_replicate]
theorem addr_addP (b o i : Nat) : (⟨b, o, Option.none⟩ : Addr).add i = ⟨b, o + i, Option.none⟩ := by unfold Addr.add; split <;> simp_all
theorem Row.words_atP {k : IntKind} {t : TypeId} {base : Nat} {w : World} {A : Option Addr} {n c : Nat} {xs : List Nat} (h : Row k t base w (.slice A n c) xs) : n = xs.length ∧ Words k w A xs := by
  obtain ⟨A', c', e, hw⟩ := h.words
  injection e with e1 e2 e3
  subst e1
  exact ⟨e2, hw⟩
theorem Row.capP {k : IntKind} {t : TypeId} {base : Nat} {w : World} {A : Option Addr} {n c : Nat} {xs : List Nat} (h : Row k t base w (.slice A n c) xs) : xs.length ≤ c := by
  rcases h.2 with ⟨e0, h0⟩ | ⟨g, cap, cur, e0, hbg, hg, hn, hm, _⟩
  · rw [h0]; exact Nat.zero_le _
  · injection e0 with _ e2 e3; subst e3; exact hn
set_option maxHeartbeats 1000000 in
theorem pad_no (hi lo : Nat) (hh : hi < 18446744073709551616) (hl : lo < 18446744073709551616) (m : Int) (h0 : -9223372036854775808 ≤ m) (h1 : m ≤ 9223372036854775807) (hf : fitsB (numC hi lo) m = false) (w : World) :
    Calls Try.prog 8 #[.agg #[.int .u64 (hi : Int), .int .u64 (lo : Int)], .int .i64 m] w (GivesPad 5 (numC hi lo) m w) := by
  have HS := Lib.hid (fun W => size_no hi lo hh hl m hf W)
  have HN := Lib.hid (fun w' hb => GivesPad.none (t := 5) (w := w) (w' := w') hf hb)
  clear hf
  have HB := Lib.hid ((Below.refl w.heap.size w).alloc (Nat.le_refl _) (.cells #[.int .u64 (hi : Int), .int .u64 (lo : Int)] 24))
  go_enter Try.func8, Try.ntmps8
  go_wp2_with fail
  refine (HS.out _).mono ?_
  rintro e w1 ⟨rfl, hb1⟩
  have HB2 := Lib.hid (HB.out.trans (hb1.mono (by simp)))
  clear hb1
  go_wp2
  go_ret2
  exact HN.out _ HB2.out
set_option maxRecDepth 100000 in
set_option maxHeartbeats 4000000 in
theorem pad_64 (hi lo : Nat) (hh : hi < 18446744073709551616) (hl : lo < 18446744073709551616) (hf : fitsB (numC hi lo) 64 = true) (hf' : 8 * numC hi lo < 18446744073709551616) (w : World) :
    Calls Try.prog 8 #[.agg #[.int .u64 (hi : Int), .int .u64 (lo : Int)], .int .i64 64] w fun e w' => ∃ A c, e = .returned (.tuple #[.slice A (padL (numC hi lo) 64).length c, .bool true]) ∧ Row .u8 5 w.heap.size w' (.slice A (padL (numC hi lo) 64).length c) (padL (numC hi lo) 64) ∧ Below w.heap.size w w' := by
  obtain ⟨i0, hi0, hz0, hz1, hz2⟩ := info_parts u8_info2
  have HS := Lib.hid (fun W => size_64 hi lo hh hl hf W)
  have HBi := Lib.hid (fun W => bits_any hi lo hh hl W)
  have HP := Lib.hid (fun W => put_any (cHi (8 * numC hi lo)) (cLo (8 * numC hi lo)) (cHi_lt _) (cLo_lt _) W)
  have hlo : cLo (8 * numC hi lo) = 8 * numC hi lo := by unfold cLo; rw [if_pos (by omega)]; omega
  have HY : Hid ((putBig 8 [cHi (8 * numC hi lo), cLo (8 * numC hi lo)]).length = 16) := putBig_length _ _
  have HD : Hid ((putBig 8 [cHi (8 * numC hi lo), cLo (8 * numC hi lo)]).drop 8 = beB 8 (8 * numC hi lo)) := by
    show (beB 8 (cHi (8 * numC hi lo)) ++ (beB 8 (cLo (8 * numC hi lo)) ++ [])).drop 8 = _
    rw [hlo, List.append_nil, List.drop_left' (beB_length _ _)]
  have hlen := padL_length (numC hi lo) 64
  have hpl : padL (numC hi lo) 64 = 128 :: (List.replicate (padZ (numC hi lo % 64) 64 8) 0 ++ beB 8 (8 * numC hi lo)) := rfl
  have hzl : padZ (numC hi lo % 64) 64 8 < 64 := padZ_lt (by omega)
  rw [show 64 / 8 = 8 from rfl] at hlen
  rw [← HD.out] at hpl
  obtain ⟨p, hp⟩ : ∃ p, p = 1 + padZ (numC hi lo % 64) 64 8 := ⟨_, rfl⟩
  rw [show padZ (numC hi lo % 64) 64 8 = p - 1 by omega] at hpl
  rw [← hp] at hlen
  have hp0 : 0 < p := by omega
  have hp1 : p ≤ 64 := by omega
  clear hf hf' hzl hp HD hlo
  generalize padL (numC hi lo) 64 = PL at *
  generalize putBig 8 [cHi (8 * numC hi lo), cLo (8 * numC hi lo)] = Y at *
  generalize cHi (8 * numC hi lo) = eh at *
  generalize cLo (8 * numC hi lo) = el at *
  generalize cOk (8 * numC hi lo) = ek at *
  obtain ⟨n, hn⟩ : ∃ n, n = PL.length := ⟨_, rfl⟩
  rw [← hn] at hlen
  rw [← hn] at HS ⊢
  have HPL := Lib.hid hpl
  have HN := Lib.hid hn
  have hYl := HY.out
  have HSP := Lib.hid (mark_splice p 8 (Y.drop 8) hp0 (by rw [List.length_drop]; omega))
  rw [← HPL.out, ← hlen] at HSP
  have HLN := Lib.hid hlen
  have hnl : 8 < n := by omega
  have hnu : n ≤ 200 := by omega
  clear hpl hn hYl hlen
  have HB := Lib.hid ((Below.refl w.heap.size w).alloc (Nat.le_refl _) (.cells #[.int .u64 (hi : Int), .int .u64 (lo : Int)] 24))
  go_enter Try.func8, Try.ntmps8
  go_wp2_with fail
  refine (HS.out _).mono ?_
  rintro e w1 ⟨rfl, hb1⟩
  obtain ⟨c1, c2, c3⟩ := box_new (k := 2) hb1 rfl
  have HB1 := Lib.hid (HB.out.trans (hb1.mono (by simp)))
  clear hb1 HB HS
  have hmk := make_at (P := Try.prog) w1 (t := 26) Try.underlying26 hi0 hz0 hz1 n n n n rfl rfl (Nat.le_refl _) (by rw [hz2]; omega) (by unfold maxLen; omega)
  have hg : (w1.alloc (.cells (zeros .u8 n) 5)).heap[w1.heap.size]? = some (.cells (List.replicate n (Value.int .u8 0)).toArray 5 (0, 0)) := by rw [← zeros_listP]; exact heap_alloc_new _ _
  have d1 : RowOk (w1.alloc (.cells (zeros .u8 n) 5)) w.heap.size 2 := (RowOk_alloc_past c1.lt).2 c1
  have d2 : rowAt (w1.alloc (.cells (zeros .u8 n) 5)) w.heap.size = #[.int .u64 (hi : Int), .int .u64 (lo : Int)] := (rowAt_alloc_past c1.lt).trans c2
  have HB2 := Lib.hid (HB1.out.alloc HB1.out.size (.cells (zeros .u8 n) 5))
  have hlt1 : w.heap.size < w1.heap.size := c1.lt
  have hw1s := HB1.out.size
  clear HB1 c1 c2 c3
  generalize w1.alloc (.cells (zeros .u8 n) 5) = WZ at *
  generalize w1.heap.size = g at *
  have f2 : WZ.cell? ⟨g, 0, Option.none⟩ = some (.int .u8 0) := by
    rw [cell_of_row _ _ _ _ _ _ hg]
    rw [List.getElem?_toArray, List.getElem?_replicate, if_pos (by omega)]
  have f3 : WZ.frozen? ⟨g, 0, Option.none⟩ = false := frozen_rowP hg
  obtain ⟨WS, hWS⟩ : ∃ WS, WZ.setCell ⟨g, 0, Option.none⟩ (.int .u8 128) = WS := ⟨_, rfl⟩
  have hS : WS.heap[g]? = some (.cells (((List.replicate n (Value.int .u8 0)).set 0 (.int .u8 128))).toArray 5 (0, 0)) := by
    rw [← hWS, setCell_eq_setRow _ _ 0 _ _ _ _ hg, setRow_heap _ _ _ _ _ _ hg, List.setIfInBounds_toArray]
  have HBS : Below g WZ WS := by
    rw [← hWS, setCell_eq_setRow _ _ 0 _ _ _ _ hg]
    exact below_setRow (Below.refl _ _) (Nat.le_refl _) _
  have g1 : RowOk WS w.heap.size 2 := d1.below HBS hlt1
  have g2 : rowAt WS w.heap.size = #[.int .u64 (hi : Int), .int .u64 (lo : Int)] := by
    rw [← d2]; unfold rowAt; rw [HBS.block _ hlt1]
  have HB3 := Lib.hid (HB2.out.trans (HBS.mono (Nat.le_of_lt hlt1)))
  have HGS := Lib.hid hS
  have hgs : g < WS.heap.size := (Array.getElem?_eq_some_iff.1 hS).1
  clear d1 d2 hS HBS hg HB2
  have hn0 : ((n : Int) == 0) = false := by simp; omega
  go_wp2_with fail
  refine (HBi.out _).mono ?_
  rintro e w3 ⟨rfl, hb3⟩
  have HG3 := Lib.hid ((hb3.block _ hgs).trans HGS.out)
  have HB4 := Lib.hid (HB3.out.trans (hb3.mono HB3.out.size))
  have hgs3 : g < w3.heap.size := Nat.lt_of_lt_of_le hgs hb3.size
  clear hb3 HB3 HGS g1 g2 HBi hgs f2 f3 hWS hmk
  go_wp2_with fail
  refine (HP.out _).mono ?_
  rintro e w5 ⟨A5, c5, rfl, hr5, hw5, hb5⟩
  have hc16 := Row.capP hr5
  rw [HY.out] at hc16
  have hc5 : c5 ≠ 8 := by omega
  have q8 : IntKind.i64.wrap 8 = 8 := by kernel_rfl
  clear hr5
  rw [HY.out]
  have HB5 := Lib.hid ((HB4.out.alloc HB4.out.size (.cells #[.int .u64 (eh : Int), .int .u64 (el : Int)] 24)).trans (hb5.mono (by simp; have := HB4.out.size; omega)))
  have HG5 := Lib.hid ((hb5.block _ (by simp; omega)).trans ((((Below.refl w3.heap.size w3).alloc (Nat.le_refl _) (.cells #[.int .u64 (eh : Int), .int .u64 (el : Int)] 24)).block _ hgs3).trans HG3.out))
  obtain ⟨b5, o5, rfl, -, -⟩ := hw5.block (i := 0) (by rw [HY.out]; omega)
  have hcell : ∀ j v, (cellsOf .u8 (Y.drop 8))[j]? = some v → w5.cell? ((⟨b5, o5 + 8, Option.none⟩ : Addr).add j) = some v := fun j v hj => by
    have h := words_add hw5 (8 + j) v (by unfold cellsOf at hj ⊢; rw [List.map_drop, List.getElem?_drop] at hj; exact hj)
    have e1 : (⟨b5, o5, Option.none⟩ : Addr).add (8 + j) = (⟨b5, o5 + 8, Option.none⟩ : Addr).add j := by rw [addr_addP, addr_addP, Nat.add_assoc]
    rw [← e1]; exact h
  have HC5 := Lib.hid hcell
  clear hb5 hw5 hcell HB4 HG3 HP hgs3
  have k1 : IntKind.i64.wrap ((n : Int) - 8) = (p : Int) := by rw [IntKind.wrap_i64]; have := HLN.out; omega
  have hnp : n ≠ p := by have := HLN.out; omega
  have k2 : (p : Int) ≤ (n : Int) := by have := HLN.out; omega
  have hcl : (cellsOf .u8 (Y.drop 8)).length = 8 := by rw [cellsOf_length, List.length_drop, HY.out]
  have HCL := Lib.hid hcl
  clear hcl
  go_wp2_with fail
  go_region_law (first
    | (go_simp
       go_at_call 17
       (with_reducible refine (lb64 _).mono ?_)
       rintro e u1 ⟨rfl, rfl⟩)
    | (refine step_copy_splice rfl (.tmp 32) (.tmp 39) 26 26 rfl 5 Try.underlying26 (by kernel_rfl) (some ⟨g, p, Option.none⟩) (some ⟨b5, o5 + 8, Option.none⟩) (n - p) (n - p) 8 (c5 - 8) (by simp [Act.eval, Act.put]; try rfl) (by simp [Act.eval, Act.put]; try rfl)
         g p _ 5 HG5.out (cellsOf .u8 (Y.drop 8)) (by rw [HCL.out]; show 8 = Nat.min 8 (n - p); have := HLN.out; exact (Nat.min_eq_left (by omega)).symm) (fun _ => ⟨rfl, _, rfl, HC5.out⟩) (by rw [HCL.out, List.length_set, List.length_replicate]; have := HLN.out; omega) (cellsOf_oneCell _ _) w.heap.size w (HB5.out.drewN 1) hw1s ?_
       rw [HSP.out]
       intro w6 hg6 hb6))
  all_goals
    have hr : Row .u8 5 w.heap.size w6 (.slice (some ⟨g, 0, Option.none⟩) n n) PL := by
      rw [HN.out]
      refine ⟨by rw [cellsOf_length, Nat.mul_one], .inr ⟨g, PL.length, _, rfl, hw1s, hg6.out, Nat.le_refl _, by rw [← HN.out]; unfold maxLen; omega, by rw [List.size_toArray, cellsOf_length, Nat.mul_one], ?_⟩⟩
      rw [Nat.mul_one]
      exact List.take_of_length_le (by rw [cellsOf_length]; exact Nat.le_refl _)
    have HR := Lib.hid hr
    have HB6 := Lib.hid hb6
    clear hr hb6 hg6
    go_wp2
    go_ret2
    exact ⟨_, _, rfl, HR.out, HB6.out⟩
set_option maxRecDepth 100000 in
set_option maxHeartbeats 4000000 in
theorem pad_128 (hi lo : Nat) (hh : hi < 18446744073709551616) (hl : lo < 18446744073709551616) (hf : fitsB (numC hi lo) 128 = true) (hf' : 8 * numC hi lo < 340282366920938463463374607431768211456) (w : World) :
    Calls Try.prog 8 #[.agg #[.int .u64 (hi : Int), .int .u64 (lo : Int)], .int .i64 128] w fun e w' => ∃ A c, e = .returned (.tuple #[.slice A (padL (numC hi lo) 128).length c, .bool true]) ∧ Row .u8 5 w.heap.size w' (.slice A (padL (numC hi lo) 128).length c) (padL (numC hi lo) 128) ∧ Below w.heap.size w w' := by
  obtain ⟨i0, hi0, hz0, hz1, hz2⟩ := info_parts u8_info2
  have HS := Lib.hid (fun W => size_128 hi lo hh hl hf W)
  have HBi := Lib.hid (fun W => bits_any hi lo hh hl W)
  have HP := Lib.hid (fun W => put_any (cHi (8 * numC hi lo)) (cLo (8 * numC hi lo)) (cHi_lt _) (cLo_lt _) W)
  have hlo := cLo_lt (8 * numC hi lo)
  have hcut : cHi (8 * numC hi lo) * 256 ^ 8 + cLo (8 * numC hi lo) = 8 * numC hi lo := by unfold cHi cLo; rw [if_pos hf', if_pos hf', show 256 ^ 8 = 18446744073709551616 from rfl]; omega
  have HY : Hid ((putBig 8 [cHi (8 * numC hi lo), cLo (8 * numC hi lo)]).length = 16) := putBig_length _ _
  have HD : Hid ((putBig 8 [cHi (8 * numC hi lo), cLo (8 * numC hi lo)]).drop 0 = beB 16 (8 * numC hi lo)) := by
    show beB 8 (cHi (8 * numC hi lo)) ++ (beB 8 (cLo (8 * numC hi lo)) ++ []) = _
    rw [List.append_nil]
    exact (beB_join 8 8 (cHi (8 * numC hi lo)) (cLo (8 * numC hi lo)) (by rw [show 256 ^ 8 = 18446744073709551616 from rfl]; exact hlo)).trans (by rw [hcut])
  have hlen := padL_length (numC hi lo) 128
  have hpl : padL (numC hi lo) 128 = 128 :: (List.replicate (padZ (numC hi lo % 128) 128 16) 0 ++ beB 16 (8 * numC hi lo)) := rfl
  have hzl : padZ (numC hi lo % 128) 128 16 < 128 := padZ_lt (by omega)
  rw [show 128 / 8 = 16 from rfl] at hlen
  rw [← HD.out] at hpl
  obtain ⟨p, hp⟩ : ∃ p, p = 1 + padZ (numC hi lo % 128) 128 16 := ⟨_, rfl⟩
  rw [show padZ (numC hi lo % 128) 128 16 = p - 1 by omega] at hpl
  rw [← hp] at hlen
  have hp0 : 0 < p := by omega
  have hp1 : p ≤ 128 := by omega
  clear hf hf' hzl hp HD hlo hcut
  generalize padL (numC hi lo) 128 = PL at *
  generalize putBig 8 [cHi (8 * numC hi lo), cLo (8 * numC hi lo)] = Y at *
  generalize cHi (8 * numC hi lo) = eh at *
  generalize cLo (8 * numC hi lo) = el at *
  generalize cOk (8 * numC hi lo) = ek at *
  obtain ⟨n, hn⟩ : ∃ n, n = PL.length := ⟨_, rfl⟩
  rw [← hn] at hlen
  rw [← hn] at HS ⊢
  have HPL := Lib.hid hpl
  have HN := Lib.hid hn
  have hYl := HY.out
  have HSP := Lib.hid (mark_splice p 16 (Y.drop 0) hp0 (by rw [List.length_drop]; omega))
  rw [← HPL.out, ← hlen] at HSP
  have HLN := Lib.hid hlen
  have hnl : 16 < n := by omega
  have hnu : n ≤ 200 := by omega
  clear hpl hn hYl hlen
  have HB := Lib.hid ((Below.refl w.heap.size w).alloc (Nat.le_refl _) (.cells #[.int .u64 (hi : Int), .int .u64 (lo : Int)] 24))
  go_enter Try.func8, Try.ntmps8
  go_wp2_with fail
  refine (HS.out _).mono ?_
  rintro e w1 ⟨rfl, hb1⟩
  obtain ⟨c1, c2, c3⟩ := box_new (k := 2) hb1 rfl
  have HB1 := Lib.hid (HB.out.trans (hb1.mono (by simp)))
  clear hb1 HB HS
  have hmk := make_at (P := Try.prog) w1 (t := 26) Try.underlying26 hi0 hz0 hz1 n n n n rfl rfl (Nat.le_refl _) (by rw [hz2]; omega) (by unfold maxLen; omega)
  have hg : (w1.alloc (.cells (zeros .u8 n) 5)).heap[w1.heap.size]? = some (.cells (List.replicate n (Value.int .u8 0)).toArray 5 (0, 0)) := by rw [← zeros_listP]; exact heap_alloc_new _ _
  have d1 : RowOk (w1.alloc (.cells (zeros .u8 n) 5)) w.heap.size 2 := (RowOk_alloc_past c1.lt).2 c1
  have d2 : rowAt (w1.alloc (.cells (zeros .u8 n) 5)) w.heap.size = #[.int .u64 (hi : Int), .int .u64 (lo : Int)] := (rowAt_alloc_past c1.lt).trans c2
  have HB2 := Lib.hid (HB1.out.alloc HB1.out.size (.cells (zeros .u8 n) 5))
  have hlt1 : w.heap.size < w1.heap.size := c1.lt
  have hw1s := HB1.out.size
  clear HB1 c1 c2 c3
  generalize w1.alloc (.cells (zeros .u8 n) 5) = WZ at *
  generalize w1.heap.size = g at *
  have f2 : WZ.cell? ⟨g, 0, Option.none⟩ = some (.int .u8 0) := by
    rw [cell_of_row _ _ _ _ _ _ hg]
    rw [List.getElem?_toArray, List.getElem?_replicate, if_pos (by omega)]
  have f3 : WZ.frozen? ⟨g, 0, Option.none⟩ = false := frozen_rowP hg
  obtain ⟨WS, hWS⟩ : ∃ WS, WZ.setCell ⟨g, 0, Option.none⟩ (.int .u8 128) = WS := ⟨_, rfl⟩
  have hS : WS.heap[g]? = some (.cells (((List.replicate n (Value.int .u8 0)).set 0 (.int .u8 128))).toArray 5 (0, 0)) := by
    rw [← hWS, setCell_eq_setRow _ _ 0 _ _ _ _ hg, setRow_heap _ _ _ _ _ _ hg, List.setIfInBounds_toArray]
  have HBS : Below g WZ WS := by
    rw [← hWS, setCell_eq_setRow _ _ 0 _ _ _ _ hg]
    exact below_setRow (Below.refl _ _) (Nat.le_refl _) _
  have g1 : RowOk WS w.heap.size 2 := d1.below HBS hlt1
  have g2 : rowAt WS w.heap.size = #[.int .u64 (hi : Int), .int .u64 (lo : Int)] := by
    rw [← d2]; unfold rowAt; rw [HBS.block _ hlt1]
  have HB3 := Lib.hid (HB2.out.trans (HBS.mono (Nat.le_of_lt hlt1)))
  have HGS := Lib.hid hS
  have hgs : g < WS.heap.size := (Array.getElem?_eq_some_iff.1 hS).1
  clear d1 d2 hS HBS hg HB2
  have hn0 : ((n : Int) == 0) = false := by simp; omega
  go_wp2_with fail
  refine (HBi.out _).mono ?_
  rintro e w3 ⟨rfl, hb3⟩
  have HG3 := Lib.hid ((hb3.block _ hgs).trans HGS.out)
  have HB4 := Lib.hid (HB3.out.trans (hb3.mono HB3.out.size))
  have hgs3 : g < w3.heap.size := Nat.lt_of_lt_of_le hgs hb3.size
  clear hb3 HB3 HGS g1 g2 HBi hgs f2 f3 hWS hmk
  go_wp2_with fail
  refine (HP.out _).mono ?_
  rintro e w5 ⟨A5, c5, rfl, hr5, hw5, hb5⟩
  have hc16 := Row.capP hr5
  rw [HY.out] at hc16
  have hc5 : c5 ≠ 0 := by omega
  have q8 : IntKind.i64.wrap 0 = 0 := by kernel_rfl
  clear hr5
  rw [HY.out]
  have HB5 := Lib.hid ((HB4.out.alloc HB4.out.size (.cells #[.int .u64 (eh : Int), .int .u64 (el : Int)] 24)).trans (hb5.mono (by simp; have := HB4.out.size; omega)))
  have HG5 := Lib.hid ((hb5.block _ (by simp; omega)).trans ((((Below.refl w3.heap.size w3).alloc (Nat.le_refl _) (.cells #[.int .u64 (eh : Int), .int .u64 (el : Int)] 24)).block _ hgs3).trans HG3.out))
  obtain ⟨b5, o5, rfl, -, -⟩ := hw5.block (i := 0) (by rw [HY.out]; omega)
  have hcell : ∀ j v, (cellsOf .u8 (Y.drop 0))[j]? = some v → w5.cell? ((⟨b5, o5 + 0, Option.none⟩ : Addr).add j) = some v := fun j v hj => by
    have h := words_add hw5 (0 + j) v (by unfold cellsOf at hj ⊢; rw [List.map_drop, List.getElem?_drop] at hj; exact hj)
    have e1 : (⟨b5, o5, Option.none⟩ : Addr).add (0 + j) = (⟨b5, o5 + 0, Option.none⟩ : Addr).add j := by rw [addr_addP, addr_addP, Nat.add_assoc]
    rw [← e1]; exact h
  have HC5 := Lib.hid hcell
  clear hb5 hw5 hcell HB4 HG3 HP hgs3
  have k1 : IntKind.i64.wrap ((n : Int) - 16) = (p : Int) := by rw [IntKind.wrap_i64]; have := HLN.out; omega
  have hnp : n ≠ p := by have := HLN.out; omega
  have k2 : (p : Int) ≤ (n : Int) := by have := HLN.out; omega
  have hcl : (cellsOf .u8 (Y.drop 0)).length = 16 := by rw [cellsOf_length, List.length_drop, HY.out]
  have HCL := Lib.hid hcl
  clear hcl
  go_wp2_with fail
  go_region_law (first
    | (go_simp
       go_at_call 17
       (with_reducible refine (lb128 _).mono ?_)
       rintro e u1 ⟨rfl, rfl⟩)
    | (refine step_copy_splice rfl (.tmp 32) (.tmp 39) 26 26 rfl 5 Try.underlying26 (by kernel_rfl) (some ⟨g, p, Option.none⟩) (some ⟨b5, o5 + 0, Option.none⟩) (n - p) (n - p) 16 (c5 - 0) (by simp [Act.eval, Act.put]; try rfl) (by simp [Act.eval, Act.put]; try rfl)
         g p _ 5 HG5.out (cellsOf .u8 (Y.drop 0)) (by rw [HCL.out]; show 16 = Nat.min 16 (n - p); have := HLN.out; exact (Nat.min_eq_left (by omega)).symm) (fun _ => ⟨rfl, _, rfl, HC5.out⟩) (by rw [HCL.out, List.length_set, List.length_replicate]; have := HLN.out; omega) (cellsOf_oneCell _ _) w.heap.size w (HB5.out.drewN 1) hw1s ?_
       rw [HSP.out]
       intro w6 hg6 hb6))
  all_goals
    have hr : Row .u8 5 w.heap.size w6 (.slice (some ⟨g, 0, Option.none⟩) n n) PL := by
      rw [HN.out]
      refine ⟨by rw [cellsOf_length, Nat.mul_one], .inr ⟨g, PL.length, _, rfl, hw1s, hg6.out, Nat.le_refl _, by rw [← HN.out]; unfold maxLen; omega, by rw [List.size_toArray, cellsOf_length, Nat.mul_one], ?_⟩⟩
      rw [Nat.mul_one]
      exact List.take_of_length_le (by rw [cellsOf_length]; exact Nat.le_refl _)
    have HR := Lib.hid hr
    have HB6 := Lib.hid hb6
    clear hr hb6 hg6
    go_wp2
    go_ret2
    exact ⟨_, _, rfl, HR.out, HB6.out⟩
theorem pad_any : PadC := by
  intro hi lo hh hl m h0 h1 w
  cases hf : fitsB (numC hi lo) m with
  | false => exact pad_no hi lo hh hl m h0 h1 hf w
  | true =>
    have e : padOf (numC hi lo) m = padL (numC hi lo) m.toNat := by unfold padOf; rw [hf]; rfl
    unfold GivesPad
    rw [e, hf]
    rcases of_decide_eq_true hf with ⟨rfl, h⟩ | ⟨rfl, h⟩
    · refine (pad_64 hi lo hh hl hf h w).mono ?_
      rintro e w' ⟨A, c, rfl, hr, hb⟩
      exact ⟨A, c, rfl, hr, (Row.words_atP hr).2, hb⟩
    · refine (pad_128 hi lo hh hl hf h w).mono ?_
      rintro e w' ⟨A, c, rfl, hr, hb⟩
      exact ⟨A, c, rfl, hr, (Row.words_atP hr).2, hb⟩
end Go.Proofs.Ytpmnikcohadlmaa
