/- Layer 15: the document's sponge, held against the program's; what the laws call. -/
import Derived.Test.YtknogmianfnfoaaDoorSpgw
namespace Go.Proofs.YtknogmianfnfoaaDoor.Sg
open Go.RowKit L64 Rw Ln
set_option linter.unusedVariables false
set_option linter.unusedSimpArgs false
/-- The document's sponge: its cells. -/
def rpC (R S : Int) (f : Nat → Nat) (p : Int) (rd : Bool) : Array Value := #[.int .i64 R, .int .i64 S, .int .u64 (f 0 : Nat), .int .u64 (f 1 : Nat), .int .u64 (f 2 : Nat), .int .u64 (f 3 : Nat), .int .u64 (f 4 : Nat), .int .u64 (f 5 : Nat), .int .u64 (f 6 : Nat), .int .u64 (f 7 : Nat), .int .u64 (f 8 : Nat), .int .u64 (f 9 : Nat), .int .u64 (f 10 : Nat), .int .u64 (f 11 : Nat), .int .u64 (f 12 : Nat), .int .u64 (f 13 : Nat), .int .u64 (f 14 : Nat), .int .u64 (f 15 : Nat), .int .u64 (f 16 : Nat), .int .u64 (f 17 : Nat), .int .u64 (f 18 : Nat), .int .u64 (f 19 : Nat), .int .u64 (f 20 : Nat), .int .u64 (f 21 : Nat), .int .u64 (f 22 : Nat), .int .u64 (f 23 : Nat), .int .u64 (f 24 : Nat), .int .i64 p, .bool rd]
theorem rpC_size (R S : Int) (f : Nat → Nat) (p : Int) (rd : Bool) : (rpC R S f p rd).size = 29 := rfl
theorem rpC_0 (R S : Int) (f : Nat → Nat) (p : Int) (rd : Bool) : (rpC R S f p rd)[0]? = some (.int .i64 R) := rfl
theorem rpC_1 (R S : Int) (f : Nat → Nat) (p : Int) (rd : Bool) : (rpC R S f p rd)[1]? = some (.int .i64 S) := rfl
theorem rpC_27 (R S : Int) (f : Nat → Nat) (p : Int) (rd : Bool) : (rpC R S f p rd)[27]? = some (.int .i64 p) := rfl
theorem rpC_28 (R S : Int) (f : Nat → Nat) (p : Int) (rd : Bool) : (rpC R S f p rd)[28]? = some (.bool rd) := rfl
theorem rpC_lane (R S : Int) (f : Nat → Nat) (p : Int) (rd : Bool) : ∀ {i : Nat} (hi : i < 25), (rpC R S f p rd)[2 + i]? = some (.int .u64 (f i : Nat))
  | 0, _ => rfl
  | 1, _ => rfl
  | 2, _ => rfl
  | 3, _ => rfl
  | 4, _ => rfl
  | 5, _ => rfl
  | 6, _ => rfl
  | 7, _ => rfl
  | 8, _ => rfl
  | 9, _ => rfl
  | 10, _ => rfl
  | 11, _ => rfl
  | 12, _ => rfl
  | 13, _ => rfl
  | 14, _ => rfl
  | 15, _ => rfl
  | 16, _ => rfl
  | 17, _ => rfl
  | 18, _ => rfl
  | 19, _ => rfl
  | 20, _ => rfl
  | 21, _ => rfl
  | 22, _ => rfl
  | 23, _ => rfl
  | 24, _ => rfl
  | i + 25, hi => absurd hi (by omega)
theorem rpC_ones (R S : Int) (f : Nat → Nat) (p : Int) (rd : Bool) : OneCells (rpC R S f p rd) := by
  unfold OneCells rpC
  simp [Value.oneCell']
abbrev Rp (W : World) (n : Nat) (R S : Int) (f : Nat → Nat) (p : Int) (rd : Bool) : Prop := Hold W n 29 (rpC R S f p rd)
theorem rp_range {W : World} {n : Nat} {R S : Int} {f : Nat → Nat} {p : Int} {rd : Bool} (h : Rp W n R S f p rd) : W.rangeAt n 2 (uTab 25 f).toList := fun j v hj => by
  rw [Array.getElem?_toList] at hj
  have hj2 : j < 25 := by
    by_cases hj3 : j < 25
    · exact hj3
    · rw [Array.getElem?_eq_none (by rw [uTab_size]; omega)] at hj; cases hj
  rw [uTab_at _ _ _ hj2] at hj
  rw [h.cell (rpC_lane R S f p rd hj2)]
  exact hj
theorem run_loadRp {W : World} {n : Nat} {R S : Int} {f : Nat → Nat} {p : Int} {rd : Bool} (h : Rp W n R S f p rd) : (loadRow 29 (.pointer (some ⟨n, 2, none⟩))).run Tryd.prog W = .ok (.agg (uTab 25 f)) W := by
  have := run_loadAt_mid (P := Tryd.prog) W n 2 29 (uTab 25 f).toList _ (rp_range h) Tryd.underlying29 rfl (by rw [Array.length_toList, uTab_size]; kernel_rfl)
  rwa [Array.toArray_toList] at this
structure RpF (W : World) (n : Nat) (R S : Int) (p : Int) (rd : Bool) : Prop where
  rate : W.cell? ⟨n, 0, none⟩ = some (.int .i64 R)
  suf : W.cell? ⟨n, 1, none⟩ = some (.int .i64 S)
  at' : W.cell? ⟨n, 27, none⟩ = some (.int .i64 p)
  read : W.cell? ⟨n, 28, none⟩ = some (.bool rd)
theorem rpF {W : World} {n : Nat} {R S : Int} {f : Nat → Nat} {p : Int} {rd : Bool} (h : Rp W n R S f p rd) : RpF W n R S p rd :=
  ⟨h.cell (rpC_0 _ _ _ _ _), h.cell (rpC_1 _ _ _ _ _), h.cell (rpC_27 _ _ _ _ _), h.cell (rpC_28 _ _ _ _ _)⟩
theorem loadR (x : Value) : Instr.loadAt 31 x = loadRow 31 x := rfl
theorem storeR (x y : Value) : Instr.storeAt 31 x y = storeRow 31 x y := rfl
theorem run_storeR {w : World} {n : Nat} {c' : Array Value} (hg : RowOk w n 29) (hs' : c'.size = 29) (h1 : OneCells c') :
    (storeRow 31 (.pointer (some ⟨n, 0, none⟩)) (.agg c')).run Tryd.prog w = .ok () (w.setRow n c') := storeAt_row hg (by kernel_rfl) hs' h1
theorem zeroR (w : World) : (zeroValue 31).run Tryd.prog w = .ok (.agg (rpC 0 0 (fun _ => 0) 0 false)) w := by kernel_rfl
theorem buildR (parts : Array (Nat × Value)) : Instr.build 31 parts = buildSem 31 parts := rfl
attribute [go_sem ↓] loadR storeR zeroR buildR
attribute [go_sem] run_storeR rpC_size
theorem eql15 (f : Nat → Nat) (w : World) : (binOp .eql 29 (.agg (uTab 25 f)) (.agg (uTab 25 f))).run Tryd.prog w = .ok (.bool true) w := by
  obtain ⟨i, hi⟩ : ∃ i, Tryd.prog.info? 27 = some i := Option.isSome_iff_exists.1 (by kernel_rfl)
  exact eql_arr w Tryd.underlying29 Tryd.underlying27 hi (by kernel_rfl) fun i => ((f i : Nat) : Int)
set_option maxRecDepth 100000 in
set_option maxHeartbeats 2000000 in
/-- A sponge in this state is told to be in it. -/
theorem told_yes (n R S : Nat) (f : Nat → Nat) (p : Nat) (rd : Bool) (R' S' : Int) (w : World) (hs : Sp w n R S f p rd) :
    Calls Tryd.prog 7 #[.pointer (some ⟨n, 0, none⟩), .agg (rpC R' S' f p rd)] w fun e w' => e = .returned (.bool true) ∧ Below w.heap.size w w' := by
  obtain ⟨w1, hw1⟩ : ∃ w1, w1 = w.alloc (.cells (rpC R' S' f p rd) 31) := ⟨_, rfl⟩
  have HB : Hid (Below w.heap.size w w1) := by rw [hw1]; exact (Below.refl _ w).alloc (Nat.le_refl _) _
  have HR : Hid (Rp w1 w.heap.size R' S' f p rd) := by rw [hw1]; exact Hold.new w _ _ 29 rfl
  have HS : Hid (Sp w1 n R S f p rd) := by rw [hw1]; exact hs.past _
  clear hs
  go_enter Tryd.func7, Tryd.ntmps7
  go_wp2_with fail
  rw [← hw1]
  clear hw1
  refine (state_any n R S f p rd _ HS.out).mono ?_
  rintro e w2 ⟨rfl, hb2⟩
  have B2 := Lib.hid (HB.out.trans (hb2.mono HB.out.size))
  have R2 := Lib.hid (HR.out.call hb2)
  have h1 := uTab_size 25 f
  have h2 := uTab_ones 25 f
  obtain ⟨w3, hw3⟩ : ∃ w3, w3 = w2.alloc (.cells (uTab 25 f) 29) := ⟨_, rfl⟩
  have B3 : Hid (Below w.heap.size w w3) := by rw [hw3]; exact B2.out.alloc B2.out.size _
  have R3 : Rp w3 w.heap.size R' S' f p rd := by rw [hw3]; exact R2.out.past _
  have L3 : Hold w3 w2.heap.size 25 (uTab 25 f) := by rw [hw3]; exact Hold.new w2 _ _ 25 (uTab_size _ _)
  have F3 := rpF R3
  have q1 := F3.at'
  have q2 := F3.read
  have q3 := run_loadRp R3
  have q4 : (loadRow 29 (.pointer (some ⟨w2.heap.size, 0, none⟩))).run Tryd.prog w3 = .ok (.agg (uTab 25 f)) w3 := L3.load Tryd.underlying29 rfl (by kernel_rfl)
  have q5 := eql15 f
  rw [hw3] at q1 q2 q3 q4
  clear F3 R3 L3 HB HR HS R2 hb2
  generalize uTab 25 f = U at *
  go_wp2_with fail
  go_ret
  rw [← hw3]
  exact ⟨rfl, B3.out⟩
set_option maxRecDepth 100000 in
set_option maxHeartbeats 4000000 in
theorem right_any (R S : Int) (f : Nat → Nat) (p : Int) (rd : Bool) (w : World) :
    Calls Tryd.prog 6 #[.agg (rpC R S f p rd)] w fun e w' => e = .returned (.bool (okB R S p rd)) ∧ Below w.heap.size w w' := by
  obtain ⟨w1, hw1⟩ : ∃ w1, w1 = w.alloc (.cells (rpC R S f p rd) 31) := ⟨_, rfl⟩
  have HB : Hid (Below w.heap.size w w1) := by rw [hw1]; exact (Below.refl _ w).alloc (Nat.le_refl _) _
  have HR : Rp w1 w.heap.size R S f p rd := by rw [hw1]; exact Hold.new w _ _ 29 rfl
  have F1 := rpF HR
  have q1 := F1.rate
  have q2 := F1.suf
  have q3 := F1.at'
  have q4 := F1.read
  clear F1 HR
  have HBR : Hid (∀ R : Int, ¬ R = 72 → ¬ R = 104 → ¬ R = 136 → ¬ R = 144 → ¬ R = 168 → hasN rateL R = false) := fun R h1 h2 h3 h4 h5 => by unfold hasN rateL; simp; omega
  have HBS : Hid (∀ S : Int, ¬ S = 4 → ¬ S = 6 → ¬ S = 31 → hasN sufL S = false) := fun S h1 h2 h3 => by unfold hasN sufL; simp; omega
  go_enter Tryd.func6, Tryd.ntmps6
  refine wp_seq_k fun K0 h0 => ?_
  have H0 := Lib.hid h0
  clear h0
  go_wp2_with fail
  refine H0.out _ _ ?_
  clear H0 K0
  rw [← hw1]
  clear hw1
  refine wp_seq_k fun K1 h1 => ?_
  refine wp_seq_k fun K2 h2 => ?_
  go_cut [40] from 3 to 40 (fun v wc => v = .bool (!(hasN rateL R && hasN sufL S)) ∧ wc = w1)
  case first =>
    clear h1 h2 q3 q4
    have hrate : (R = 72 ∨ R = 104 ∨ R = 136 ∨ R = 144 ∨ R = 168) ∨ (¬ R = 72 ∧ ¬ R = 104 ∧ ¬ R = 136 ∧ ¬ R = 144 ∧ ¬ R = 168) := by omega
    have hsuf : (S = 4 ∨ S = 6 ∨ S = 31) ∨ (¬ S = 4 ∧ ¬ S = 6 ∧ ¬ S = 31) := by omega
    rcases hrate with hr | ⟨h1, h2, h3, h4, h5⟩
    · rcases hsuf with hsf | ⟨k1, k2, k3⟩
      · rcases hr with rfl | rfl | rfl | rfl | rfl <;> rcases hsf with rfl | rfl | rfl
        all_goals
          go_wp2_with fail
          go_meet
          case rel => exact ⟨rfl, rfl⟩
      · have e2 := Lib.hid (HBS.out S k1 k2 k3)
        rcases hr with rfl | rfl | rfl | rfl | rfl
        all_goals
          go_wp2_with fail
          go_meet
          case rel => exact ⟨by rw [e2.out]; simp [k1, k2, k3], rfl⟩
    · have e1 := Lib.hid (HBR.out R h1 h2 h3 h4 h5)
      go_wp2_with fail
      go_meet
      case rel => exact ⟨by rw [e1.out]; rfl, rfl⟩
  case rest =>
  obtain ⟨rfl, rfl⟩ := hcut
  clear HBR HBS
  cases hb : (hasN rateL R && hasN sufL S) with
  | false =>
    have HBB := Lib.hid hb
    clear hb
    go_wp2_with fail
    go_ret
    exact ⟨by unfold okB; rw [HBB.out]; rfl, HB.out⟩
  | true =>
    have HBB := Lib.hid hb
    clear hb
    by_cases h0 : 0 ≤ p
    · have e0 := Lib.hid (decide_eq_true h0)
      by_cases hl : p < R
      · have e1 := Lib.hid (decide_eq_true hl)
        go_wp2_with fail
        go_ret
        exact ⟨by unfold okB placeB; rw [HBB.out, e0.out, e1.out]; first | rfl | simp, HB.out⟩
      · have e1 := Lib.hid (decide_eq_false hl)
        by_cases he : p = R
        · have d3 : (p == R) = true := by rw [beq_iff_eq]; exact he
          have e4 := Lib.hid (decide_eq_true he)
          clear he
          cases rd
          · go_wp2_with fail
            go_ret
            exact ⟨by unfold okB placeB; rw [HBB.out, e0.out, e1.out]; first | rfl | simp, HB.out⟩
          · go_wp2_with fail
            go_ret
            exact ⟨by unfold okB placeB; rw [HBB.out, e0.out, e1.out, e4.out]; first | rfl | simp [d3], HB.out⟩
        · have d3 : (p == R) = false := by rw [beq_eq_false_iff_ne]; exact he
          have e4 := Lib.hid (decide_eq_false he)
          clear he
          cases rd
          · go_wp2_with fail
            go_ret
            exact ⟨by unfold okB placeB; rw [HBB.out, e0.out, e1.out]; first | rfl | simp, HB.out⟩
          · go_wp2_with fail
            go_ret
            exact ⟨by unfold okB placeB; rw [HBB.out, e0.out, e1.out, e4.out]; first | rfl | simp [d3], HB.out⟩
    · have e0 := Lib.hid (decide_eq_false h0)
      go_wp2_with fail
      go_ret
      exact ⟨by unfold okB placeB; rw [HBB.out, e0.out]; first | rfl | simp, HB.out⟩
theorem run_buildR (R S : Int) (W : World) : (buildSem 31 #[(0, .int .i64 R), (1, .int .i64 S)]).run Tryd.prog W = .ok (.agg (rpC R S (fun _ => 0) 0 false)) W :=
  run_build W 31 _ _ (by kernel_rfl)
set_option maxRecDepth 100000 in
set_option maxHeartbeats 4000000 in
theorem spongeNew_walk (w : World) (ht : OTab w) (R : Int) (hR0 : -9223372036854775808 ≤ R) (hR1 : R ≤ 9223372036854775807) (S : Int) (hS0 : -9223372036854775808 ≤ S) (hS1 : S ≤ 9223372036854775807) :
    Calls Tryd.prog 3 #[.int .i64 R, .int .i64 S] w fun e w' => e = .returned (.bool true) ∧ Below w.heap.size w w' := by
  have C0 := Lib.hid (wakes15_any w ht)
  have C1 : Hid (∀ W, _) := Lib.hid (fun W => new_any R S W)
  have C2 : Hid (∀ W, Calls Tryd.prog 6 #[.agg (rpC R S (fun _ => 0) 0 false)] W fun e w' => e = .returned (.bool (okB R S 0 false)) ∧ Below W.heap.size W w') := fun W => right_any R S _ 0 false W
  have C3 : Hid (∀ W B, Sp W B R.toNat S.toNat (fun _ => 0) 0 false → Calls Tryd.prog 7 #[.pointer (some ⟨B, 0, none⟩), .agg (rpC R S (fun _ => 0) 0 false)] W fun e w' => e = .returned (.bool true) ∧ Below W.heap.size W w') := fun W B h => told_yes B R.toNat S.toNat _ 0 false R S W h
  have q1 := fun W => run_buildR R S W
  have hc := rpC_size R S (fun _ => 0) 0 false
  have ho := rpC_ones R S (fun _ => 0) 0 false
  generalize rpC R S (fun _ => 0) 0 false = U at *
  cases hk : okB R S 0 false with
  | true =>
    have HK : Hid (okB R S 0 false = true) := Lib.hid hk
    rw [hk] at C2
    clear hk
    go_enter Tryd.func3, Tryd.ntmps3
    go_wp2_with fail
    refine C0.out.mono ?_
    rintro e w1 ⟨rfl, hb1⟩
    have B1 := Lib.hid hb1
    clear hb1
    go_wp2_with fail
    refine (C1.out _).mono ?_
    rintro e w2 ⟨h1, -⟩
    obtain ⟨B, rfl, hB, hs, hb2⟩ := h1 HK.out
    have HS := Lib.hid (hs.past (.cells U 31))
    have B2 := Lib.hid ((B1.out.trans (hb2.mono B1.out.size)).alloc (Nat.le_trans B1.out.size hb2.size) (.cells U 31))
    obtain ⟨w3, hw3⟩ : ∃ w3, w3 = w2.alloc (.cells U 31) := ⟨_, rfl⟩
    have H3 : Hold w3 w2.heap.size 29 U := by rw [hw3]; exact Hold.new w2 U _ 29 hc
    have q2 : (loadRow 31 (.pointer (some ⟨w2.heap.size, 0, none⟩))).run Tryd.prog w3 = .ok (.agg U) w3 := H3.load Tryd.underlying31 rfl (by kernel_rfl)
    rw [hw3] at q2
    rw [← hw3] at HS B2
    have H3b := Lib.hid H3
    clear H3 hs hb2 h1
    go_wp2_with fail
    rw [← hw3]
    clear hw3 q2
    refine (C2.out _).mono ?_
    rintro e w4 ⟨rfl, hb4⟩
    have HS4 := Lib.hid (HS.out.call hb4)
    have H4 := H3b.out.call hb4
    have B4 := Lib.hid (B2.out.trans (hb4.mono B2.out.size))
    have q2 : (loadRow 31 (.pointer (some ⟨w2.heap.size, 0, none⟩))).run Tryd.prog w4 = .ok (.agg U) w4 := H4.load Tryd.underlying31 rfl (by kernel_rfl)
    clear H4 hb4
    go_wp2_with fail
    refine (C3.out _ B HS4.out).mono ?_
    rintro e w5 ⟨rfl, hb5⟩
    go_wp2_with fail
    go_ret
    exact ⟨rfl, B4.out.trans (hb5.mono B4.out.size)⟩
  | false =>
    have HK : Hid (okB R S 0 false = false) := Lib.hid hk
    rw [hk] at C2
    clear hk
    go_enter Tryd.func3, Tryd.ntmps3
    go_wp2_with fail
    refine C0.out.mono ?_
    rintro e w1 ⟨rfl, hb1⟩
    have B1 := Lib.hid hb1
    clear hb1
    go_wp2_with fail
    refine (C1.out _).mono ?_
    rintro e w2 ⟨-, h1⟩
    obtain ⟨rfl, hb2⟩ := h1 HK.out
    have B2 := Lib.hid ((B1.out.trans (hb2.mono B1.out.size)).alloc (Nat.le_trans B1.out.size hb2.size) (.cells U 31))
    obtain ⟨w3, hw3⟩ : ∃ w3, w3 = w2.alloc (.cells U 31) := ⟨_, rfl⟩
    have H3 : Hold w3 w2.heap.size 29 U := by rw [hw3]; exact Hold.new w2 U _ 29 hc
    have q2 : (loadRow 31 (.pointer (some ⟨w2.heap.size, 0, none⟩))).run Tryd.prog w3 = .ok (.agg U) w3 := H3.load Tryd.underlying31 rfl (by kernel_rfl)
    rw [hw3] at q2
    clear H3 hb2 h1 hw3
    go_wp2_with fail
    refine (C2.out _).mono ?_
    rintro e w4 ⟨rfl, hb4⟩
    have B4 := Lib.hid (B2.out.trans (hb4.mono B2.out.size))
    clear hb4
    go_wp2_with fail
    go_ret
    exact ⟨rfl, B4.out⟩
end Go.Proofs.YtknogmianfnfoaaDoor.Sg
