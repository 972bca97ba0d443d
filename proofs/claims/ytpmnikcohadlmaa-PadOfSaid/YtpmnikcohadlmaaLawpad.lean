/- Layer 10: the laws on Of and Size, given what the program's calls tell. -/
import Derived.Test.YtpmnikcohadlmaaRefpad
namespace Go.Proofs.Ytpmnikcohadlmaa
open Go.RowKit
set_option linter.unusedVariables false
set_option linter.unusedSimpArgs false
/-- What pad.Of tells. -/
abbrev PadC : Prop := ∀ (hi lo : Nat), hi < 18446744073709551616 → lo < 18446744073709551616 → ∀ (m : Int), -9223372036854775808 ≤ m → m ≤ 9223372036854775807 → ∀ (w : World),
  Calls Try.prog 8 #[.agg #[.int .u64 (hi : Int), .int .u64 (lo : Int)], .int .i64 m] w (GivesPad 5 (numC hi lo) m w)
/-- What pad.Size tells. -/
abbrev SizeC : Prop := ∀ (hi lo : Nat), hi < 18446744073709551616 → lo < 18446744073709551616 → ∀ (m : Int), -9223372036854775808 ≤ m → m ≤ 9223372036854775807 → ∀ (w : World),
  Calls Try.prog 11 #[.agg #[.int .u64 (hi : Int), .int .u64 (lo : Int)], .int .i64 m] w fun e w' => e = .returned (.int .i64 ((padOf (numC hi lo) m).length : Nat)) ∧ Below w.heap.size w w'
theorem wake_pad : (padOf 3 64).length = 61 ∧ (padOf 3 64).getD 60 0 = 24 ∧ fitsB 3 64 = true := by decide +kernel
theorem padL_max (V : Nat) (m : Int) : (padOf V m).length ≤ 300 := by
  unfold padOf
  split
  · rename_i h
    rcases of_decide_eq_true h with ⟨rfl, _⟩ | ⟨rfl, _⟩
    · show (padL V 64).length ≤ 300
      rw [padL_length]
      have := padZ_lt (r := V % 64) (t := 8) (.inl (rfl : (64 : Nat) = 64))
      show 1 + padZ (V % 64) 64 8 + 8 ≤ 300
      omega
    · show (padL V 128).length ≤ 300
      rw [padL_length]
      have := padZ_lt (r := V % 128) (t := 16) (.inr (rfl : (128 : Nat) = 128))
      show 1 + padZ (V % 128) 128 16 + 16 ≤ 300
      omega
  · simp
set_option maxRecDepth 20000 in
set_option maxHeartbeats 1000000 in
theorem wakesP_any (HP : PadC) (HS : SizeC) (w : World) : Calls Try.prog 7 #[] w fun e w' => e = .returned (.bool true) ∧ Below w.heap.size w w' := by
  have H1 := Lib.hid (fun W => HP 0 3 (by omega) (by omega) 64 (by omega) (by omega) W)
  have H2 := Lib.hid (fun W => HS 0 3 (by omega) (by omega) 64 (by omega) (by omega) W)
  obtain ⟨e1, e2, e3⟩ := wake_pad
  unfold GivesPad at H1
  rw [show numC 0 3 = 3 from rfl] at H1 H2
  simp only [Int.natCast_zero] at H1 H2
  rw [e1] at H2
  have E1 := Lib.hid e1
  have E2 := Lib.hid e2
  rw [e3] at H1
  clear e1 e2 e3 HP HS
  generalize padOf 3 64 = P at *
  go_enter Try.func7, Try.ntmps7
  go_wp2_with fail
  refine (H1.out _).mono ?_
  rintro e w1 ⟨A, c, rfl, -, hw, hb1⟩
  rw [E1.out]
  obtain ⟨b, o, rfl, hlt, hc⟩ := hw.block (i := 60) (by rw [E1.out]; omega)
  rw [E2.out] at hc
  have HB1 := Lib.hid hb1
  clear hb1 hw hlt
  go_wp2_with fail
  refine (H2.out _).mono ?_
  rintro e w2 ⟨rfl, hb2⟩
  have HB2 := Lib.hid (HB1.out.trans (hb2.mono HB1.out.size))
  clear hb2
  go_wp2
  go_ret
  exact ⟨rfl, HB2.out⟩
set_option maxRecDepth 20000 in
set_option maxHeartbeats 2000000 in
theorem padOf_core (HP : PadC) (HS : SizeC) (hi lo : Nat) (hh : hi < 18446744073709551616) (hl : lo < 18446744073709551616) (m : Int) (h0 : -9223372036854775808 ≤ m) (h1 : m ≤ 9223372036854775807) (w : World) :
    Calls Try.prog 3 #[.agg #[.int .u64 (hi : Int), .int .u64 (lo : Int)], .int .i64 m] w fun e w' => e = .returned (.bool true) ∧ Below w.heap.size w w' := by
  have HW := Lib.hid (fun W => wakesP_any HP HS W)
  have H1 := Lib.hid (fun W => HP hi lo hh hl m h0 h1 W)
  have H2 := Lib.hid (fun W => refPad_any hi lo hh hl m W)
  have H3 := Lib.hid (fun W => HS hi lo hh hl m h0 h1 W)
  unfold GivesPad at H1 H2
  have HL := Lib.hid (padOf_lt (numC hi lo) m)
  have HM := padL_max (numC hi lo) m
  clear HP HS
  generalize padOf (numC hi lo) m = P at *
  generalize fitsB (numC hi lo) m = fb at *
  go_enter Try.func3, Try.ntmps3
  go_wp2_with fail
  refine (HW.out _).mono ?_
  rintro e w1 ⟨rfl, hb1⟩
  obtain ⟨c1, c2, c3⟩ := box_new (k := 2) hb1 rfl
  have HB1 := Lib.hid (((Below.refl w.heap.size w).alloc (Nat.le_refl _) (.cells #[.int .u64 (hi : Int), .int .u64 (lo : Int)] 24)).trans (hb1.mono (by simp)))
  clear hb1 HW
  go_wp2_with fail
  refine (H1.out _).mono ?_
  rintro e w2 ⟨A2, d2, rfl, -, hw2, hb2⟩
  obtain ⟨e1, e2, e3⟩ := box_call hb2 c1
  rw [c2] at e2
  have HB2 := Lib.hid (HB1.out.trans (hb2.mono HB1.out.size))
  clear hb2 c1 c2 c3 HB1 H1
  go_wp2_with fail
  refine (H2.out _).mono ?_
  rintro e w3 ⟨A3, d3, rfl, -, hw3, hb3⟩
  obtain ⟨f1, f2, f3⟩ := box_call hb3 e1
  rw [e2] at f2
  have HB3 := Lib.hid (HB2.out.trans (hb3.mono HB2.out.size))
  have HS3 := Lib.hid (refSame_any A2 d2 P HL.out (by unfold maxLen; omega) A3 d3 P HL.out (by unfold maxLen; omega) w3 (hw2.below hb3 (Nat.le_refl _)) hw3)
  clear hb3 e1 e2 e3 HB2 H2 hw2 hw3
  go_wp2_with fail
  refine HS3.out.mono ?_
  rintro e w' ⟨rfl, n, rfl⟩
  rw [sameB_self]
  have g1 : RowOk (w3.drewN n) w.heap.size 2 := f1
  have g2 : rowAt (w3.drewN n) w.heap.size = #[.int .u64 (hi : Int), .int .u64 (lo : Int)] := f2
  have hbb : (fb == fb) = true := by cases fb <;> rfl
  have hpp : ((P.length : Int) == (P.length : Int)) = true := by simp
  have HB4 : Hid (Below w.heap.size w (w3.drewN n)) := HB3.out.drewN n
  clear f1 f2 f3 HS3 HB3
  go_wp2_with fail
  refine (H3.out _).mono ?_
  rintro e w5 ⟨rfl, hb5⟩
  have HB5 := Lib.hid (HB4.out.trans (hb5.mono HB4.out.size))
  clear hb5 HB4
  go_wp2
  go_ret
  exact ⟨rfl, HB5.out⟩
set_option maxRecDepth 20000 in
set_option maxHeartbeats 2000000 in
theorem padWhole_64 (HP : PadC) (HS : SizeC) (hi lo : Nat) (hh : hi < 18446744073709551616) (hl : lo < 18446744073709551616) (w : World) :
    Calls Try.prog 4 #[.agg #[.int .u64 (hi : Int), .int .u64 (lo : Int)], .bool false] w fun e w' => e = .returned (.bool true) ∧ Below w.heap.size w w' := by
  have HW := Lib.hid (fun W => wakesP_any HP HS W)
  have H0 := Lib.hid (fun W => refFits_any hi lo hh hl 64 W)
  have H1 := Lib.hid (fun W => HP hi lo hh hl 64 (by omega) (by omega) W)
  have H2 := Lib.hid (fun W => refMod_any hi lo hh hl 64 (by omega) (by omega) W)
  unfold GivesPad at H1
  have hmod : modC (numC hi lo) 64 = ((numC hi lo % 64 : Nat) : Int) := by unfold modC; rw [if_pos (by omega)]; omega
  have hpad : fitsB (numC hi lo) 64 = true → padOf (numC hi lo) 64 = padL (numC hi lo) 64 := fun h => by unfold padOf; rw [h]; rfl
  rw [hmod] at H2
  obtain ⟨q1, q2, q3, q4⟩ := padL_facts (V := numC hi lo) (s := 64) (t := 8) (by omega)
  have hr : numC hi lo % 64 < 64 := Nat.mod_lt _ (by omega)
  clear hmod HP HS
  cases hfit : fitsB (numC hi lo) 64 with
  | false =>
    rw [hfit] at H0
    clear H1 H2 hpad q1 q2 q3 q4 hr hfit
    go_enter Try.func4, Try.ntmps4
    go_wp2_with fail
    refine (HW.out _).mono ?_
    rintro e w1 ⟨rfl, hb1⟩
    obtain ⟨c1, c2, c3⟩ := box_new (k := 2) hb1 rfl
    have HB1 := Lib.hid (((Below.refl w.heap.size w).alloc (Nat.le_refl _) (.cells #[.int .u64 (hi : Int), .int .u64 (lo : Int)] 24)).trans (hb1.mono (by simp)))
    clear hb1 HW
    go_wp2_with fail
    refine (H0.out _).mono ?_
    rintro e w2 ⟨rfl, hb2⟩
    have HB2 := Lib.hid (HB1.out.trans (hb2.mono HB1.out.size))
    clear hb2
    go_wp2
    go_ret
    exact ⟨rfl, HB2.out⟩
  | true =>
    rw [hfit] at H0 H1
    rw [hpad hfit] at H1
    clear hpad hfit
    generalize padL (numC hi lo) 64 = P at *
    generalize numC hi lo % 64 = r at *
    have HQ4 := Lib.hid q4
    clear q4
    obtain ⟨n, hn⟩ : ∃ n, n = P.length := ⟨_, rfl⟩
    rw [← hn] at H1 q1 q2 q3
    have HN := Lib.hid hn
    clear hn
    have p1 : (((r : Int) + (n : Int)) % 64 == 0) = true := by rw [beq_iff_eq]; omega
    clear q1
    go_enter Try.func4, Try.ntmps4
    go_wp2_with fail
    refine (HW.out _).mono ?_
    rintro e w1 ⟨rfl, hb1⟩
    obtain ⟨c1, c2, c3⟩ := box_new (k := 2) hb1 rfl
    have HB1 := Lib.hid (((Below.refl w.heap.size w).alloc (Nat.le_refl _) (.cells #[.int .u64 (hi : Int), .int .u64 (lo : Int)] 24)).trans (hb1.mono (by simp)))
    clear hb1 HW
    go_wp2_with fail
    refine (H0.out _).mono ?_
    rintro e w2 ⟨rfl, hb2⟩
    obtain ⟨d1, d2, d3⟩ := box_call hb2 c1
    rw [c2] at d2
    have HB2 := Lib.hid (HB1.out.trans (hb2.mono HB1.out.size))
    clear hb2 c1 c2 c3 HB1 H0
    go_wp2_with fail
    refine (H1.out _).mono ?_
    rintro e w3 ⟨A, c, rfl, -, hw3, hb3⟩
    obtain ⟨e1, e2, e3⟩ := box_call hb3 d1
    rw [d2] at e2
    have HB3 := Lib.hid (HB2.out.trans (hb3.mono HB2.out.size))
    clear hb3 d1 d2 d3 HB2 H1
    go_wp2_with fail
    refine (H2.out _).mono ?_
    rintro e w4 ⟨rfl, hb4⟩
    have hw4 := hw3.below hb4 (Nat.le_refl _)
    obtain ⟨b, o, rfl, hlt, hc⟩ := hw4.block (i := 0) (by rw [← HN.out]; omega)
    rw [HQ4.out, Nat.add_zero] at hc
    have HB4 := Lib.hid (HB3.out.trans (hb4.mono HB3.out.size))
    clear hb4 hw4 hw3 hlt HB3 H2 e1 e2 e3
    go_wp2
    go_ret
    exact ⟨rfl, HB4.out⟩
set_option maxRecDepth 20000 in
set_option maxHeartbeats 2000000 in
theorem padWhole_128 (HP : PadC) (HS : SizeC) (hi lo : Nat) (hh : hi < 18446744073709551616) (hl : lo < 18446744073709551616) (w : World) :
    Calls Try.prog 4 #[.agg #[.int .u64 (hi : Int), .int .u64 (lo : Int)], .bool true] w fun e w' => e = .returned (.bool true) ∧ Below w.heap.size w w' := by
  have HW := Lib.hid (fun W => wakesP_any HP HS W)
  have H0 := Lib.hid (fun W => refFits_any hi lo hh hl 128 W)
  have H1 := Lib.hid (fun W => HP hi lo hh hl 128 (by omega) (by omega) W)
  have H2 := Lib.hid (fun W => refMod_any hi lo hh hl 128 (by omega) (by omega) W)
  unfold GivesPad at H1
  have hmod : modC (numC hi lo) 128 = ((numC hi lo % 128 : Nat) : Int) := by unfold modC; rw [if_pos (by omega)]; omega
  have hpad : fitsB (numC hi lo) 128 = true → padOf (numC hi lo) 128 = padL (numC hi lo) 128 := fun h => by unfold padOf; rw [h]; rfl
  rw [hmod] at H2
  obtain ⟨q1, q2, q3, q4⟩ := padL_facts (V := numC hi lo) (s := 128) (t := 16) (by omega)
  have hr : numC hi lo % 128 < 128 := Nat.mod_lt _ (by omega)
  clear hmod HP HS
  cases hfit : fitsB (numC hi lo) 128 with
  | false =>
    rw [hfit] at H0
    clear H1 H2 hpad q1 q2 q3 q4 hr hfit
    go_enter Try.func4, Try.ntmps4
    go_wp2_with fail
    refine (HW.out _).mono ?_
    rintro e w1 ⟨rfl, hb1⟩
    obtain ⟨c1, c2, c3⟩ := box_new (k := 2) hb1 rfl
    have HB1 := Lib.hid (((Below.refl w.heap.size w).alloc (Nat.le_refl _) (.cells #[.int .u64 (hi : Int), .int .u64 (lo : Int)] 24)).trans (hb1.mono (by simp)))
    clear hb1 HW
    go_wp2_with fail
    refine (H0.out _).mono ?_
    rintro e w2 ⟨rfl, hb2⟩
    have HB2 := Lib.hid (HB1.out.trans (hb2.mono HB1.out.size))
    clear hb2
    go_wp2
    go_ret
    exact ⟨rfl, HB2.out⟩
  | true =>
    rw [hfit] at H0 H1
    rw [hpad hfit] at H1
    clear hpad hfit
    generalize padL (numC hi lo) 128 = P at *
    generalize numC hi lo % 128 = r at *
    have HQ4 := Lib.hid q4
    clear q4
    obtain ⟨n, hn⟩ : ∃ n, n = P.length := ⟨_, rfl⟩
    rw [← hn] at H1 q1 q2 q3
    have HN := Lib.hid hn
    clear hn
    have p1 : (((r : Int) + (n : Int)) % 128 == 0) = true := by rw [beq_iff_eq]; omega
    clear q1
    go_enter Try.func4, Try.ntmps4
    go_wp2_with fail
    refine (HW.out _).mono ?_
    rintro e w1 ⟨rfl, hb1⟩
    obtain ⟨c1, c2, c3⟩ := box_new (k := 2) hb1 rfl
    have HB1 := Lib.hid (((Below.refl w.heap.size w).alloc (Nat.le_refl _) (.cells #[.int .u64 (hi : Int), .int .u64 (lo : Int)] 24)).trans (hb1.mono (by simp)))
    clear hb1 HW
    go_wp2_with fail
    refine (H0.out _).mono ?_
    rintro e w2 ⟨rfl, hb2⟩
    obtain ⟨d1, d2, d3⟩ := box_call hb2 c1
    rw [c2] at d2
    have HB2 := Lib.hid (HB1.out.trans (hb2.mono HB1.out.size))
    clear hb2 c1 c2 c3 HB1 H0
    go_wp2_with fail
    refine (H1.out _).mono ?_
    rintro e w3 ⟨A, c, rfl, -, hw3, hb3⟩
    obtain ⟨e1, e2, e3⟩ := box_call hb3 d1
    rw [d2] at e2
    have HB3 := Lib.hid (HB2.out.trans (hb3.mono HB2.out.size))
    clear hb3 d1 d2 d3 HB2 H1
    go_wp2_with fail
    refine (H2.out _).mono ?_
    rintro e w4 ⟨rfl, hb4⟩
    have hw4 := hw3.below hb4 (Nat.le_refl _)
    obtain ⟨b, o, rfl, hlt, hc⟩ := hw4.block (i := 0) (by rw [← HN.out]; omega)
    rw [HQ4.out, Nat.add_zero] at hc
    have HB4 := Lib.hid (HB3.out.trans (hb4.mono HB3.out.size))
    clear hb4 hw4 hw3 hlt HB3 H2 e1 e2 e3
    go_wp2
    go_ret
    exact ⟨rfl, HB4.out⟩
theorem padApart_eq {s h1 l1 h2 l2 : Nat} (hs : s = 64 ∨ s = 128) (k1 : l1 < 18446744073709551616) (k2 : l2 < 18446744073709551616) (f1 : fitsB (numC h1 l1) (s : Int) = true) (f2 : fitsB (numC h2 l2) (s : Int) = true) :
    (sameB (padL (numC h1 l1) s) (padL (numC h2 l2) s) == eqC (h1 : Int) (l1 : Int) (h2 : Int) (l2 : Int)) = true := by
  have b1 : 8 * numC h1 l1 < 256 ^ (s / 8) := by
    have := of_decide_eq_true f1
    rcases hs with rfl | rfl
    · show _ < 18446744073709551616; omega
    · show _ < 340282366920938463463374607431768211456; omega
  have b2 : 8 * numC h2 l2 < 256 ^ (s / 8) := by
    have := of_decide_eq_true f2
    rcases hs with rfl | rfl
    · show _ < 18446744073709551616; omega
    · show _ < 340282366920938463463374607431768211456; omega
  rw [beq_iff_eq, Bool.eq_iff_iff]
  unfold sameB eqC
  rw [decide_eq_true_eq, Bool.and_eq_true, beq_iff_eq, beq_iff_eq]
  constructor
  · intro h
    have := padL_inj b1 b2 h
    unfold numC at this
    omega
  · rintro ⟨e1, e2⟩
    rw [show h1 = h2 by omega, show l1 = l2 by omega]
theorem quiet_more {P : Program} {f : FuncId} {args : Array Value} {w : World} {n : Nat} {v : Value} (h : Calls P f args (w.drewN n) (Quiet (w.drewN n) v)) : Calls P f args (w.drewN n) fun e w'' => e = .returned v ∧ ∃ m, w'' = w.drewN m :=
  h.mono fun _ _ ⟨h1, m, h2⟩ => ⟨h1, _, h2.trans (drewN_drewN _ _ _)⟩
theorem row_keep {W W' : World} {n k : Nat} {c : Array Value} (h : RowOk W n k ∧ rowAt W n = c) (hb : Below W.heap.size W W') : RowOk W' n k ∧ rowAt W' n = c :=
  ⟨h.1.below hb h.1.lt, by rw [← h.2]; unfold rowAt; rw [hb.block _ h.1.lt]⟩
set_option maxRecDepth 20000 in
set_option maxHeartbeats 2000000 in
theorem padApart_64 (HP : PadC) (HS : SizeC) (h1 l1 h2 l2 : Nat) (hh1 : h1 < 18446744073709551616) (hl1 : l1 < 18446744073709551616) (hh2 : h2 < 18446744073709551616) (hl2 : l2 < 18446744073709551616) (w : World) :
    Calls Try.prog 6 #[.agg #[.int .u64 (h1 : Int), .int .u64 (l1 : Int)], .agg #[.int .u64 (h2 : Int), .int .u64 (l2 : Int)], .bool false] w fun e w' => e = .returned (.bool true) ∧ Below w.heap.size w w' := by
  have HW := Lib.hid (fun W => wakesP_any HP HS W)
  have H1 := Lib.hid (fun W => HP h1 l1 hh1 hl1 64 (by omega) (by omega) W)
  have H2 := Lib.hid (fun W => HP h2 l2 hh2 hl2 64 (by omega) (by omega) W)
  unfold GivesPad at H1 H2
  have L1 := Lib.hid (padOf_lt (numC h1 l1) 64)
  have L2 := Lib.hid (padOf_lt (numC h2 l2) 64)
  have M1 := padL_max (numC h1 l1) 64
  have M2 := padL_max (numC h2 l2) 64
  have hfin : fitsB (numC h1 l1) 64 = true → fitsB (numC h2 l2) 64 = true → (sameB (padOf (numC h1 l1) 64) (padOf (numC h2 l2) 64) == eqC (h1 : Int) (l1 : Int) (h2 : Int) (l2 : Int)) = true := fun f1 f2 => by
    unfold padOf
    rw [f1, f2]
    exact padApart_eq (s := 64) (by omega) hl1 hl2 f1 f2
  clear HP HS
  generalize padOf (numC h1 l1) 64 = P1 at *
  generalize padOf (numC h2 l2) 64 = P2 at *
  generalize fitsB (numC h1 l1) 64 = f1 at *
  generalize fitsB (numC h2 l2) 64 = f2 at *
  have HFIN := Lib.hid hfin
  clear hfin
  go_enter Try.func6, Try.ntmps6
  go_wp2_with fail
  refine (HW.out _).mono ?_
  rintro e w1 ⟨rfl, hb1⟩
  obtain ⟨c1, c2, c3⟩ := box_new (k := 2) hb1 rfl
  obtain ⟨d1, d2, d3⟩ := box_old (k := 2) hb1 (show RowOk (w.alloc (.cells #[.int .u64 (h1 : Int), .int .u64 (l1 : Int)] 24)) w.heap.size 2 from (RowOk_alloc_at rfl).2 rfl)
  rw [rowAt_alloc_at rfl] at d2
  rw [World.size_alloc] at c1 c2
  have HB1 := Lib.hid ((((Below.refl w.heap.size w).alloc (Nat.le_refl _) (.cells #[.int .u64 (h1 : Int), .int .u64 (l1 : Int)] 24)).alloc (by simp) (.cells #[.int .u64 (h2 : Int), .int .u64 (l2 : Int)] 24)).trans (hb1.mono (by simp; omega)))
  clear hb1 HW c3 d3
  go_wp2_with fail
  refine (H1.out _).mono ?_
  rintro e w2 ⟨A1, r1, rfl, -, hw1, hb2⟩
  have c := row_keep ⟨c1, c2⟩ hb2
  have d := row_keep ⟨d1, d2⟩ hb2
  have HB2 := Lib.hid (HB1.out.trans (hb2.mono HB1.out.size))
  clear c1 c2 d1 d2 HB1 H1
  obtain ⟨c1, c2⟩ := c
  obtain ⟨d1, d2⟩ := d
  go_wp2_with fail
  refine (H2.out _).mono ?_
  rintro e w3 ⟨A2, r2, rfl, -, hw2, hb3⟩
  have c := row_keep ⟨c1, c2⟩ hb3
  have d := row_keep ⟨d1, d2⟩ hb3
  have HB3 := Lib.hid (HB2.out.trans (hb3.mono HB2.out.size))
  have HS3 := Lib.hid (fun m => refSame_any A1 r1 P1 L1.out (by unfold maxLen; omega) A2 r2 P2 L2.out (by unfold maxLen; omega) (w3.drewN m) ((hw1.below hb3 (Nat.le_refl _)).drewN m) (hw2.drewN m))
  clear c1 c2 d1 d2 HB2 H2 hb2 hb3 hw1 hw2
  obtain ⟨c1, c2⟩ := c
  obtain ⟨d1, d2⟩ := d
  cases f1 with
  | false =>
    go_wp2_with fail
    go_quiet (fail)
    go_wp2
    go_ret
    exact ⟨rfl, HB3.out.drewN _⟩
  | true =>
    cases f2 with
    | false =>
      go_wp2_with fail
      go_quiet (fail)
      go_wp2
      go_ret
      exact ⟨rfl, HB3.out.drewN _⟩
    | true =>
      have HF := Lib.hid (HFIN.out rfl rfl)
      go_wp2_with fail
      go_quiet ((go_at_call 10; with_reducible exact quiet_more (HS3.out _)))
      go_wp2
      go_ret
      exact ⟨ret_bool HF.out, HB3.out.drewN _⟩
set_option maxRecDepth 20000 in
set_option maxHeartbeats 2000000 in
theorem padApart_128 (HP : PadC) (HS : SizeC) (h1 l1 h2 l2 : Nat) (hh1 : h1 < 18446744073709551616) (hl1 : l1 < 18446744073709551616) (hh2 : h2 < 18446744073709551616) (hl2 : l2 < 18446744073709551616) (w : World) :
    Calls Try.prog 6 #[.agg #[.int .u64 (h1 : Int), .int .u64 (l1 : Int)], .agg #[.int .u64 (h2 : Int), .int .u64 (l2 : Int)], .bool true] w fun e w' => e = .returned (.bool true) ∧ Below w.heap.size w w' := by
  have HW := Lib.hid (fun W => wakesP_any HP HS W)
  have H1 := Lib.hid (fun W => HP h1 l1 hh1 hl1 128 (by omega) (by omega) W)
  have H2 := Lib.hid (fun W => HP h2 l2 hh2 hl2 128 (by omega) (by omega) W)
  unfold GivesPad at H1 H2
  have L1 := Lib.hid (padOf_lt (numC h1 l1) 128)
  have L2 := Lib.hid (padOf_lt (numC h2 l2) 128)
  have M1 := padL_max (numC h1 l1) 128
  have M2 := padL_max (numC h2 l2) 128
  have hfin : fitsB (numC h1 l1) 128 = true → fitsB (numC h2 l2) 128 = true → (sameB (padOf (numC h1 l1) 128) (padOf (numC h2 l2) 128) == eqC (h1 : Int) (l1 : Int) (h2 : Int) (l2 : Int)) = true := fun f1 f2 => by
    unfold padOf
    rw [f1, f2]
    exact padApart_eq (s := 128) (by omega) hl1 hl2 f1 f2
  clear HP HS
  generalize padOf (numC h1 l1) 128 = P1 at *
  generalize padOf (numC h2 l2) 128 = P2 at *
  generalize fitsB (numC h1 l1) 128 = f1 at *
  generalize fitsB (numC h2 l2) 128 = f2 at *
  have HFIN := Lib.hid hfin
  clear hfin
  go_enter Try.func6, Try.ntmps6
  go_wp2_with fail
  refine (HW.out _).mono ?_
  rintro e w1 ⟨rfl, hb1⟩
  obtain ⟨c1, c2, c3⟩ := box_new (k := 2) hb1 rfl
  obtain ⟨d1, d2, d3⟩ := box_old (k := 2) hb1 (show RowOk (w.alloc (.cells #[.int .u64 (h1 : Int), .int .u64 (l1 : Int)] 24)) w.heap.size 2 from (RowOk_alloc_at rfl).2 rfl)
  rw [rowAt_alloc_at rfl] at d2
  rw [World.size_alloc] at c1 c2
  have HB1 := Lib.hid ((((Below.refl w.heap.size w).alloc (Nat.le_refl _) (.cells #[.int .u64 (h1 : Int), .int .u64 (l1 : Int)] 24)).alloc (by simp) (.cells #[.int .u64 (h2 : Int), .int .u64 (l2 : Int)] 24)).trans (hb1.mono (by simp; omega)))
  clear hb1 HW c3 d3
  go_wp2_with fail
  refine (H1.out _).mono ?_
  rintro e w2 ⟨A1, r1, rfl, -, hw1, hb2⟩
  have c := row_keep ⟨c1, c2⟩ hb2
  have d := row_keep ⟨d1, d2⟩ hb2
  have HB2 := Lib.hid (HB1.out.trans (hb2.mono HB1.out.size))
  clear c1 c2 d1 d2 HB1 H1
  obtain ⟨c1, c2⟩ := c
  obtain ⟨d1, d2⟩ := d
  go_wp2_with fail
  refine (H2.out _).mono ?_
  rintro e w3 ⟨A2, r2, rfl, -, hw2, hb3⟩
  have c := row_keep ⟨c1, c2⟩ hb3
  have d := row_keep ⟨d1, d2⟩ hb3
  have HB3 := Lib.hid (HB2.out.trans (hb3.mono HB2.out.size))
  have HS3 := Lib.hid (fun m => refSame_any A1 r1 P1 L1.out (by unfold maxLen; omega) A2 r2 P2 L2.out (by unfold maxLen; omega) (w3.drewN m) ((hw1.below hb3 (Nat.le_refl _)).drewN m) (hw2.drewN m))
  clear c1 c2 d1 d2 HB2 H2 hb2 hb3 hw1 hw2
  obtain ⟨c1, c2⟩ := c
  obtain ⟨d1, d2⟩ := d
  cases f1 with
  | false =>
    go_wp2_with fail
    go_quiet (fail)
    go_wp2
    go_ret
    exact ⟨rfl, HB3.out.drewN _⟩
  | true =>
    cases f2 with
    | false =>
      go_wp2_with fail
      go_quiet (fail)
      go_wp2
      go_ret
      exact ⟨rfl, HB3.out.drewN _⟩
    | true =>
      have HF := Lib.hid (HFIN.out rfl rfl)
      go_wp2_with fail
      go_quiet ((go_at_call 10; with_reducible exact quiet_more (HS3.out _)))
      go_wp2
      go_ret
      exact ⟨ret_bool HF.out, HB3.out.drewN _⟩
end Go.Proofs.Ytpmnikcohadlmaa
