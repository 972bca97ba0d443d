/- Layer 4: the law on counts as bits. -/
import Derived.Test.YtholhpkjcomboaaLawcnt
import Derived.Test.YtholhpkjcomboaaRefcmp
namespace Go.Proofs.Ytholhpkjcomboaa
open Go.RowKit
set_option linter.unusedVariables false
set_option linter.unusedSimpArgs false
theorem box_past {W W' : World} {n k : Nat} {c : Array Value} {B : Nat} (hb : Below B W W') (h : RowOk W n k ∧ rowAt W n = c) (hn : n < B) : RowOk W' n k ∧ rowAt W' n = c :=
  ⟨h.1.below hb hn, by rw [← h.2]; unfold rowAt; rw [hb.block n hn]⟩
theorem box4_call {w : World} {s n m l r : Nat} {a b c : Array Value} {W W' : World} (hb : Below W.heap.size W W')
    (h : (RowOk W n 2 ∧ rowAt W n = a) ∧ (RowOk W m 2 ∧ rowAt W m = b) ∧ (RowOk W l 2 ∧ rowAt W l = c) ∧ (RowOk W r 2 ∧ rowAt W r = c) ∧ s ≤ W.heap.size ∧ Below s w W) :
    (RowOk W' n 2 ∧ rowAt W' n = a) ∧ (RowOk W' m 2 ∧ rowAt W' m = b) ∧ (RowOk W' l 2 ∧ rowAt W' l = c) ∧ (RowOk W' r 2 ∧ rowAt W' r = c) ∧ s ≤ W'.heap.size ∧ Below s w W' := by
  obtain ⟨h1, h2, h3, h4, h5, h6⟩ := h
  exact ⟨box_past hb h1 h1.1.lt, box_past hb h2 h2.1.lt, box_past hb h3 h3.1.lt, box_past hb h4 h4.1.lt, Nat.le_trans h5 hb.size, h6.trans (hb.mono h5)⟩
theorem box4_end {w : World} {s n m l r : Nat} {a b c : Array Value} {W : World}
    (h : (RowOk W n 2 ∧ rowAt W n = a) ∧ (RowOk W m 2 ∧ rowAt W m = b) ∧ (RowOk W l 2 ∧ rowAt W l = c) ∧ (RowOk W r 2 ∧ rowAt W r = c) ∧ s ≤ W.heap.size ∧ Below s w W) : Below s w W := h.2.2.2.2.2
set_option maxHeartbeats 4000000 in
theorem countBits_core (w : World) (hi lo : Nat) (hh : hi < 18446744073709551616) (hl : lo < 18446744073709551616) (hi2 lo2 : Nat) (hh2 : hi2 < 18446744073709551616) (hl2 : lo2 < 18446744073709551616) (m : Int) (rh rl : Nat) (rk fv gv iv : Bool) (cv mv : Int)
    (HC1 : Hid (∀ W, Calls Try.prog 15 #[.agg #[.int .u64 (hi : Int), .int .u64 (lo : Int)], .agg #[.int .u64 (hi2 : Int), .int .u64 (lo2 : Int)]] W fun e w' => e = .returned (.int .i64 cv) ∧ Below W.heap.size W w'))
    (HC2 : Hid (∀ W, Calls Try.prog 16 #[.agg #[.int .u64 (hi : Int), .int .u64 (lo : Int)], .agg #[.int .u64 (hi2 : Int), .int .u64 (lo2 : Int)]] W fun e w' => e = .returned (.int .i64 cv) ∧ Below W.heap.size W w'))
    (HM1 : Hid (∀ W, Calls Try.prog 17 #[.agg #[.int .u64 (hi : Int), .int .u64 (lo : Int)], .int .i64 m] W fun e w' => e = .returned (.int .i64 mv) ∧ Below W.heap.size W w'))
    (HM2 : Hid (∀ W, Calls Try.prog 18 #[.agg #[.int .u64 (hi : Int), .int .u64 (lo : Int)], .int .i64 m] W fun e w' => e = .returned (.int .i64 mv) ∧ Below W.heap.size W w'))
    (HF1 : Hid (∀ W, Calls Try.prog 19 #[.agg #[.int .u64 (hi : Int), .int .u64 (lo : Int)], .int .i64 m] W fun e w' => e = .returned (.bool fv) ∧ Below W.heap.size W w'))
    (HF2 : Hid (∀ W, Calls Try.prog 20 #[.agg #[.int .u64 (hi : Int), .int .u64 (lo : Int)], .int .i64 m] W fun e w' => e = .returned (.bool fv) ∧ Below W.heap.size W w'))
    (HG1 : Hid (∀ W, Calls Try.prog 19 #[.agg #[.int .u64 (hi : Int), .int .u64 (lo : Int)], .int .i64 64] W fun e w' => e = .returned (.bool gv) ∧ Below W.heap.size W w'))
    (HG2 : Hid (∀ W, Calls Try.prog 20 #[.agg #[.int .u64 (hi : Int), .int .u64 (lo : Int)], .int .i64 64] W fun e w' => e = .returned (.bool gv) ∧ Below W.heap.size W w'))
    (HI1 : Hid (∀ W, Calls Try.prog 19 #[.agg #[.int .u64 (hi : Int), .int .u64 (lo : Int)], .int .i64 128] W fun e w' => e = .returned (.bool iv) ∧ Below W.heap.size W w'))
    (HI2 : Hid (∀ W, Calls Try.prog 20 #[.agg #[.int .u64 (hi : Int), .int .u64 (lo : Int)], .int .i64 128] W fun e w' => e = .returned (.bool iv) ∧ Below W.heap.size W w'))
    (HT1 : Hid (∀ W, Calls Try.prog 13 #[.agg #[.int .u64 (hi : Int), .int .u64 (lo : Int)]] W fun e w' => e = .returned (.tuple #[.agg #[.int .u64 (rh : Int), .int .u64 (rl : Int)], .bool rk]) ∧ Below W.heap.size W w'))
    (HT2 : Hid (∀ W, Calls Try.prog 14 #[.agg #[.int .u64 (hi : Int), .int .u64 (lo : Int)]] W fun e w' => e = .returned (.tuple #[.agg #[.int .u64 (rh : Int), .int .u64 (rl : Int)], .bool rk]) ∧ Below W.heap.size W w'))
    : Calls Try.prog 4 #[.agg #[.int .u64 (hi : Int), .int .u64 (lo : Int)], .agg #[.int .u64 (hi2 : Int), .int .u64 (lo2 : Int)], .int .i64 m] w fun e w' => e = .returned (.bool true) ∧ Below w.heap.size w w' := by
  have hrk : (rk == rk) = true := by simp
  go_enter Try.func4, Try.ntmps4
  go_wp2_with fail
  refine (wakesC_any _).mono ?_
  rintro e w1 ⟨rfl, hb1⟩
  have B1 := (((Below.refl w.heap.size w).alloc (Nat.le_refl _) (.cells #[.int .u64 (hi : Int), .int .u64 (lo : Int)] 24)).alloc (by simp) (.cells #[.int .u64 (hi2 : Int), .int .u64 (lo2 : Int)] 24)).trans (hb1.mono (by simp; omega))
  obtain ⟨c1, c2, c3⟩ := box_old (n := w.heap.size) (k := 2) hb1 ((RowOk_alloc_at rfl).2 rfl)
  rw [rowAt_alloc_at rfl] at c2
  obtain ⟨d1, d2, d3⟩ := box_new (k := 2) hb1 rfl
  rw [World.size_alloc] at d1 d2 d3
  clear hb1
  go_wp2_with fail
  refine (HT1.out _).mono ?_
  rintro e w2 ⟨rfl, hb2⟩
  have B2 := B1.trans (hb2.mono B1.size)
  obtain ⟨C1, C2, C3⟩ := box_call hb2 c1
  rw [c2] at C2
  obtain ⟨D1, D2, D3⟩ := box_call hb2 d1
  rw [d2] at D2
  clear c1 c2 c3 d1 d2 d3 hb2 B1
  go_wp2_with fail
  refine (HT2.out _).mono ?_
  rintro e w3 ⟨rfl, hb3⟩
  have B3 := (B2.alloc B2.size _).trans (hb3.mono (by simp; have := B2.size; omega))
  obtain ⟨c1, c2, c3⟩ := box_old hb3 C1
  rw [C2] at c2
  obtain ⟨d1, d2, d3⟩ := box_old hb3 D1
  rw [D2] at d2
  obtain ⟨a1, a2, a3⟩ := box_new (k := 2) hb3 rfl
  clear C1 C2 C3 D1 D2 D3 hb3 B2
  have B4 := B3.alloc B3.size (.cells #[.int .u64 (rh : Int), .int .u64 (rl : Int)] 24)
  have hsz : w.heap.size ≤ (w3.alloc (.cells #[.int .u64 (rh : Int), .int .u64 (rl : Int)] 24)).heap.size := B4.size
  have e1 : RowOk (w3.alloc (.cells #[.int .u64 (rh : Int), .int .u64 (rl : Int)] 24)) w.heap.size 2 ∧ rowAt (w3.alloc (.cells #[.int .u64 (rh : Int), .int .u64 (rl : Int)] 24)) w.heap.size = #[.int .u64 (hi : Int), .int .u64 (lo : Int)] := ⟨(RowOk_alloc_past c1.lt).2 c1, (rowAt_alloc_past c1.lt).trans c2⟩
  have e2 : RowOk (w3.alloc (.cells #[.int .u64 (rh : Int), .int .u64 (rl : Int)] 24)) (w.heap.size + 1) 2 ∧ rowAt (w3.alloc (.cells #[.int .u64 (rh : Int), .int .u64 (rl : Int)] 24)) (w.heap.size + 1) = #[.int .u64 (hi2 : Int), .int .u64 (lo2 : Int)] := ⟨(RowOk_alloc_past d1.lt).2 d1, (rowAt_alloc_past d1.lt).trans d2⟩
  have e3 : RowOk (w3.alloc (.cells #[.int .u64 (rh : Int), .int .u64 (rl : Int)] 24)) w2.heap.size 2 ∧ rowAt (w3.alloc (.cells #[.int .u64 (rh : Int), .int .u64 (rl : Int)] 24)) w2.heap.size = #[.int .u64 (rh : Int), .int .u64 (rl : Int)] := ⟨(RowOk_alloc_past a1.lt).2 a1, (rowAt_alloc_past a1.lt).trans a2⟩
  have e4 : RowOk (w3.alloc (.cells #[.int .u64 (rh : Int), .int .u64 (rl : Int)] 24)) w3.heap.size 2 ∧ rowAt (w3.alloc (.cells #[.int .u64 (rh : Int), .int .u64 (rl : Int)] 24)) w3.heap.size = #[.int .u64 (rh : Int), .int .u64 (rl : Int)] := ⟨(RowOk_alloc_at rfl).2 rfl, rowAt_alloc_at rfl⟩
  clear c1 c2 c3 d1 d2 d3 a1 a2 a3 B3
  go_wp2_with fail
  generalize w3.alloc (.cells #[.int .u64 (rh : Int), .int .u64 (rl : Int)] 24) = W0 at *
  generalize w3.heap.size = bx at *
  generalize w2.heap.size = ba at *
  generalize hbc : w.heap.size = bc at *
  have hS := And.intro e1 (And.intro e2 (And.intro e3 (And.intro e4 (And.intro hsz B4))))
  have hS1 := box4_call (W' := W0.drew) ((Below.refl _ _).drewN 1) hS
  clear e1 e2 e3 e4 hsz B4
  go_region_held3 (fun W => (RowOk W bc 2 ∧ rowAt W bc = #[.int .u64 (hi : Int), .int .u64 (lo : Int)]) ∧ (RowOk W (bc + 1) 2 ∧ rowAt W (bc + 1) = #[.int .u64 (hi2 : Int), .int .u64 (lo2 : Int)]) ∧ (RowOk W ba 2 ∧ rowAt W ba = #[.int .u64 (rh : Int), .int .u64 (rl : Int)]) ∧ (RowOk W bx 2 ∧ rowAt W bx = #[.int .u64 (rh : Int), .int .u64 (rl : Int)]) ∧ bc ≤ W.heap.size ∧ Below bc w W)
    (first | exact hS1 | assumption | exact box4_call hk10 (by assumption) | exact box4_call hk9 (by assumption) | exact box4_call hk8 (by assumption) | exact box4_call hk7 (by assumption) | exact box4_call hk6 (by assumption) | exact box4_call hk5 (by assumption) | exact box4_call hk4 (by assumption) | exact box4_call hk3 (by assumption) | exact box4_call hk2 (by assumption) | exact box4_call hk1 (by assumption))
    (first
      | (go_at_call 15; (with_reducible refine (HC1.out _).mono ?_); rintro e u1 ⟨rfl, hk1⟩)
      | (go_at_call 16; (with_reducible refine (HC2.out _).mono ?_); rintro e u2 ⟨rfl, hk2⟩)
      | (go_at_call 17; (with_reducible refine (HM1.out _).mono ?_); rintro e u3 ⟨rfl, hk3⟩)
      | (go_at_call 18; (with_reducible refine (HM2.out _).mono ?_); rintro e u4 ⟨rfl, hk4⟩)
      | (go_at_call 19; (with_reducible refine (HF1.out _).mono ?_); rintro e u5 ⟨rfl, hk5⟩)
      | (go_at_call 20; (with_reducible refine (HF2.out _).mono ?_); rintro e u6 ⟨rfl, hk6⟩)
      | (go_at_call 19; (with_reducible refine (HG1.out _).mono ?_); rintro e u7 ⟨rfl, hk7⟩)
      | (go_at_call 20; (with_reducible refine (HG2.out _).mono ?_); rintro e u8 ⟨rfl, hk8⟩)
      | (go_at_call 19; (with_reducible refine (HI1.out _).mono ?_); rintro e u9 ⟨rfl, hk9⟩)
      | (go_at_call 20; (with_reducible refine (HI2.out _).mono ?_); rintro e u10 ⟨rfl, hk10⟩))
  rename_i hEnd
  have HEnd := Lib.hid (box4_end hEnd)
  clear hEnd hS hS1
  go_wp2
  go_ret
  first
    | exact ⟨rfl, HEnd.out⟩
    | exact ⟨rfl, by rw [hbc]; exact HEnd.out⟩
set_option maxHeartbeats 4000000 in
theorem countBits_walk (w : World) (hi lo : Nat) (hh : hi < 18446744073709551616) (hl : lo < 18446744073709551616) (hi2 lo2 : Nat) (hh2 : hi2 < 18446744073709551616) (hl2 : lo2 < 18446744073709551616) (m : Int) (hm0 : -9223372036854775808 ≤ m) (hm1 : m ≤ 9223372036854775807) :
    Calls Try.prog 4 #[.agg #[.int .u64 (hi : Int), .int .u64 (lo : Int)], .agg #[.int .u64 (hi2 : Int), .int .u64 (lo2 : Int)], .int .i64 m] w fun e w' => e = .returned (.bool true) ∧ Below w.heap.size w w' := by
  exact countBits_core w hi lo hh hl hi2 lo2 hh2 hl2 m _ _ _ _ _ _ _ _ (fun W => compare_any hi lo hi2 lo2 hh hl hh2 hl2 W) (fun W => refCompare_any hi lo hi2 lo2 hh hl hh2 hl2 W)
    (fun W => mod_any hi lo hh hl m hm0 hm1 W) (fun W => refMod_any hi lo hh hl m hm0 hm1 W) (fun W => fits_any hi lo hh hl m W) (fun W => refFits_any hi lo hh hl m W)
    (fun W => fits_any hi lo hh hl 64 W) (fun W => refFits_any hi lo hh hl 64 W) (fun W => fits_any hi lo hh hl 128 W) (fun W => refFits_any hi lo hh hl 128 W) (fun W => bits_any hi lo hh hl W) (fun W => refBits_any hi lo hh hl W)
end Go.Proofs.Ytholhpkjcomboaa
