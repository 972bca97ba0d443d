/- Layer 4: the document's own order of counts. -/
import Derived.Test.YtholhpkjcomboaaCount
import Derived.Deep.RegionHeld3
namespace Go.Proofs.Ytholhpkjcomboaa
open Go.RowKit
set_option linter.unusedVariables false
set_option linter.unusedSimpArgs false
/-- The boxes n and m lie in the world. -/
def Two (n m : Nat) (a b : Array Value) (W : World) : Prop := (n < W.heap.size ∧ m < W.heap.size) ∧ RowOk W n 2 ∧ rowAt W n = a ∧ RowOk W m 2 ∧ rowAt W m = b
theorem Two.below {n m : Nat} {a b : Array Value} {W W' : World} {B : Nat} (hb : Below B W W') (h : Two n m a b W) (hn : n < B) (hm : m < B) : Two n m a b W' := by
  obtain ⟨⟨h1, h2⟩, h3, h4, h5, h6⟩ := h
  refine ⟨⟨by have := hb.size; omega, by have := hb.size; omega⟩, h3.below hb hn, ?_, h5.below hb hm, ?_⟩
  · rw [← h4]; unfold rowAt; rw [hb.block n hn]
  · rw [← h6]; unfold rowAt; rw [hb.block m hm]
theorem Two.alloc {n m : Nat} {a b : Array Value} {W : World} (h : Two n m a b W) (o : Obj) : Two n m a b (W.alloc o) := h.below ((Below.refl W.heap.size W).alloc (Nat.le_refl _) o) h.1.1 h.1.2
theorem Two.drew {n m : Nat} {a b : Array Value} {W : World} (h : Two n m a b W) : Two n m a b W.drew := h
/-- Behind a call. -/
theorem Two.call {n m : Nat} {a b : Array Value} {W W' : World} (h : Two n m a b W) (hb : Below W.heap.size W W') : Two n m a b W' := h.below hb h.1.1 h.1.2
theorem size_drew (W : World) : W.drew.heap.size = W.heap.size := Eq.trans rfl rfl
/-- The same, and where the call began. -/
def TwoB (w : World) (n : Nat) (a b : Array Value) (W : World) : Prop := Two n (n + 1) a b W ∧ Below n w W
theorem TwoB.call {w : World} {n : Nat} {a b : Array Value} {W W' : World} (h : TwoB w n a b W) (hb : Below W.heap.size W W') : TwoB w n a b W' := ⟨h.1.call hb, h.2.trans (hb.mono (Nat.le_of_lt h.1.1.1))⟩
theorem TwoB.alloc {w : World} {n : Nat} {a b : Array Value} {W : World} (h : TwoB w n a b W) (o : Obj) : TwoB w n a b (W.alloc o) := ⟨h.1.alloc o, h.2.alloc (Nat.le_of_lt h.1.1.1) o⟩
theorem TwoB.store {w : World} {n : Nat} {a b : Array Value} {W : World} (h : TwoB w n a b W) {p : Nat} (c : Array Value) (hp : n + 1 < p) : TwoB w n a b (W.setRow p c) := ⟨h.1.below (below_setRow (Below.refl p W) (Nat.le_refl _) c) (by omega) hp, below_setRow h.2 (by omega) c⟩
theorem TwoB.drew {w : World} {n : Nat} {a b : Array Value} {W : World} (h : TwoB w n a b W) : TwoB w n a b W.drew := ⟨h.1.drew, h.2.drewN 1⟩
theorem ok_new {W : World} {c : Array Value} {t : TypeId} (h : c.size = 136) : RowOk (W.alloc (.cells c t)) W.heap.size 136 := (RowOk_alloc_at rfl).2 h
theorem ok_old {W : World} {o : Obj} {n : Nat} (h : RowOk W n 136) : RowOk (W.alloc o) n 136 := (RowOk_alloc_past h.lt).2 h
theorem ok_call {W W' : World} {n : Nat} (hb : Below W.heap.size W W') (h : RowOk W n 136) : RowOk W' n 136 := h.below hb h.lt
theorem ok_ne {W : World} {n k : Nat} (h : RowOk W n k) : n ≠ W.heap.size := Nat.ne_of_lt h.lt
theorem ok_ne1 {W : World} {n k : Nat} (h : RowOk W n k) : n ≠ W.heap.size + 1 := Nat.ne_of_lt (Nat.lt_succ_of_lt h.lt)
/-- Block p is a row of 136 cells, these. -/
def HasRow (W : World) (p : Nat) (c : Array Value) : Prop := RowOk W p 136 ∧ rowAt W p = c
theorem HasRow.new {W : World} {c : Array Value} {t : TypeId} {p : Nat} (hp : p = W.heap.size) (h : c.size = 136) : HasRow (W.alloc (.cells c t)) p c := ⟨(RowOk_alloc_at hp).2 h, rowAt_alloc_at hp⟩
theorem HasRow.old {W : World} {c : Array Value} {o : Obj} {p : Nat} (h : HasRow W p c) : HasRow (W.alloc o) p c := ⟨ok_old h.1, (rowAt_alloc_past h.1.lt).trans h.2⟩
theorem HasRow.at {W : World} {c : Array Value} {p : Nat} (h : RowOk W p 136) (hc : c.size = 136) : HasRow (W.setRow p c) p c := by
  refine ⟨(RowOk_setRow_at h).2 hc, ?_⟩
  obtain ⟨t, hg, _⟩ := h.heap
  exact rowAt_of (setRow_heap _ _ _ _ _ _ hg)
theorem HasRow.far {W : World} {c d : Array Value} {p q : Nat} (hn : p ≠ q) (h : HasRow W p c) : HasRow (W.setRow q d) p c := by
  refine ⟨(RowOk_setRow_past hn).2 h.1, ?_⟩
  rw [← h.2]; unfold rowAt; rw [setRow_other _ _ _ _ hn]
theorem ok_far {W : World} {d : Array Value} {p q : Nat} (hn : p ≠ q) (h : RowOk W p 136) : RowOk (W.setRow q d) p 136 := (RowOk_setRow_past hn).2 h
theorem row_cell136 {W : World} {p : Nat} {f : Nat → Int} (h : HasRow W p (arr 136 f)) {i : Nat} (hi : i < 136) : W.cell? ⟨p, i, none⟩ = some (.int .i64 (f i)) := by
  obtain ⟨t, hg, _⟩ := h.1.heap
  rw [h.2] at hg
  rw [cell_of_row _ _ _ _ t (0, 0) hg, arr_at 136 f i hi]
/-- Two numbers that are the same above place j: the bit at j. -/
theorem cmp_bits (x y j : Nat) (h : x / 2 ^ (j + 1) = y / 2 ^ (j + 1)) : (bitI x j < bitI y j → cmpC x y = -1) ∧ (bitI y j < bitI x j → cmpC x y = 1) ∧ (bitI x j = bitI y j → x / 2 ^ j = y / 2 ^ j) := by
  rw [bitI_nat, bitI_nat]
  have hx : x / 2 ^ j = 2 * (x / 2 ^ (j + 1)) + x / 2 ^ j % 2 := by rw [Nat.pow_succ, ← Nat.div_div_eq_div_mul]; omega
  have hy : y / 2 ^ j = 2 * (y / 2 ^ (j + 1)) + y / 2 ^ j % 2 := by rw [Nat.pow_succ, ← Nat.div_div_eq_div_mul]; omega
  have le1 : x ≤ y → x / 2 ^ j ≤ y / 2 ^ j := fun h => Nat.div_le_div_right h
  have le2 : y ≤ x → y / 2 ^ j ≤ x / 2 ^ j := fun h => Nat.div_le_div_right h
  unfold cmpC
  refine ⟨fun hlt => ?_, fun hlt => ?_, fun he => ?_⟩
  · rw [if_neg (fun e => by subst e; omega), if_pos (by omega)]
  · rw [if_neg (fun e => by subst e; omega), if_neg (by omega)]
  · omega
attribute [local go_sem] RowOk_setRow_past
set_option maxHeartbeats 8000000 in
theorem refCompare_any (h1 l1 h2 l2 : Nat) (hh1 : h1 < 18446744073709551616) (hl1 : l1 < 18446744073709551616) (hh2 : h2 < 18446744073709551616) (hl2 : l2 < 18446744073709551616) (w : World) :
    Calls Try.prog 16 #[.agg #[.int .u64 (h1 : Int), .int .u64 (l1 : Int)], .agg #[.int .u64 (h2 : Int), .int .u64 (l2 : Int)]] w fun e w' => e = .returned (.int .i64 (cmpC (numC h1 l1) (numC h2 l2))) ∧ Below w.heap.size w w' := by
  have HB1 := Lib.hid (fun W => cbits_any h1 l1 hh1 hl1 W)
  have HB2 := Lib.hid (fun W => cbits_any h2 l2 hh2 hl2 W)
  go_enter Try.func16, Try.ntmps16
  go_wp2_with fail
  have hS : Two w.heap.size (w.heap.size + 1) #[.int .u64 (h1 : Int), .int .u64 (l1 : Int)] #[.int .u64 (h2 : Int), .int .u64 (l2 : Int)] ((w.alloc (.cells #[.int .u64 (h1 : Int), .int .u64 (l1 : Int)] 24)).alloc (.cells #[.int .u64 (h2 : Int), .int .u64 (l2 : Int)] 24)) :=
    ⟨⟨by simp; omega, by simp⟩, (RowOk_alloc_past (by simp)).2 ((RowOk_alloc_at rfl).2 rfl), (rowAt_alloc_past (by simp)).trans (rowAt_alloc_at rfl), (RowOk_alloc_at (by simp)).2 rfl, rowAt_alloc_at (by simp)⟩
  have HB := Lib.hid ((((Below.refl w.heap.size w).alloc (Nat.le_refl _) (.cells #[.int .u64 (h1 : Int), .int .u64 (l1 : Int)] 24))).alloc (by simp) (.cells #[.int .u64 (h2 : Int), .int .u64 (l2 : Int)] 24))
  generalize (w.alloc (.cells #[.int .u64 (h1 : Int), .int .u64 (l1 : Int)] 24)).alloc (.cells #[.int .u64 (h2 : Int), .int .u64 (l2 : Int)] 24) = W0 at *
  generalize hbx : w.heap.size = bx at *
  rename_i K0 hK0
  have REST : ∀ (pa pb : Nat) (t9 t11 : Value) (W : World), HasRow W pa (arr 136 (bitI (numC h1 l1))) → HasRow W pb (arr 136 (bitI (numC h2 l2))) → Below bx w W →
      K0 { tmps := #[.agg #[.int .u64 (h1 : Int), .int .u64 (l1 : Int)], .agg #[.int .u64 (h2 : Int), .int .u64 (l2 : Int)], .pointer (some ⟨bx, 0, none⟩), .pointer (some ⟨bx + 1, 0, none⟩), .int .i64 0, .pointer (some ⟨pa, 0, none⟩), .pointer (some ⟨pb, 0, none⟩), undef, .agg #[.int .u64 (h1 : Int), .int .u64 (l1 : Int)], t9, .agg #[.int .u64 (h2 : Int), .int .u64 (l2 : Int)], t11, undef, undef, undef, undef, undef, undef, undef, undef, undef, undef, undef, undef, undef, undef, undef, undef, undef, undef], defers := [] } W := by
    intro pa pb t9 t11 W ha hb hB
    have HA := Lib.hid ha
    have HBr := Lib.hid hb
    have HBW := Lib.hid hB
    clear ha hb hB HB1 HB2 hS HB
    refine hK0 _ _ ?_
    go_wp2
    go_loopw [7] (fun i wr => ∃ j n : Nat, j ≤ 128 ∧ i = .int .i64 ((j : Int) - 1) ∧ Hid (numC h1 l1 / 2 ^ j = numC h2 l2 / 2 ^ j) ∧ wr = W.drewN n) (fun i _ => (intOf i + 1).toNat)
    case atStart => exact ⟨128, 0, Nat.le_refl _, rfl, by rw [show (2 : Nat) ^ 128 = 340282366920938463463374607431768211456 from rfl, Nat.div_eq_of_lt (numC_lt hh1 hl1), Nat.div_eq_of_lt (numC_lt hh2 hl2)]; exact rfl, rfl⟩
    case round =>
      obtain ⟨j, n, hj, rfl, he, rfl⟩ := hrel
      rcases j with _ | j
      · have HO : Hid (cmpC (numC h1 l1) (numC h2 l2) = 0) := by
          have := he.out
          rw [Nat.pow_zero, Nat.div_one, Nat.div_one] at this
          exact if_pos this
        go_wp2
        go_ret
        first
          | exact ⟨ret_int HO.out.symm, HBW.out.drewN n⟩
          | exact ⟨ret_int HO.out.symm, by rw [hbx]; exact HBW.out.drewN n⟩
      · have ca := row_cell136 HA.out (show j < 136 by omega)
        have cb := row_cell136 HBr.out (show j < 136 by omega)
        obtain ⟨q1, q2, q3⟩ := cmp_bits (numC h1 l1) (numC h2 l2) j he.out
        have Q := Lib.hid (And.intro q1 (And.intro q2 q3))
        have p1 := bitI_range (numC h1 l1) j
        have p2 := bitI_range (numC h2 l2) j
        clear q1 q2 q3 he
        by_cases h12 : bitI (numC h1 l1) j < bitI (numC h2 l2) j
        · have HO := Lib.hid (Q.out.1 h12)
          have d1 : decide (bitI (numC h1 l1) j < bitI (numC h2 l2) j) = true := decide_eq_true h12
          clear h12 Q
          generalize bitI (numC h1 l1) j = p at *
          generalize bitI (numC h2 l2) j = q at *
          go_wp2
          go_region
          go_wp2
          go_ret
          first
            | exact ⟨ret_int HO.out.symm, (HBW.out.drewN n).drewN 1⟩
            | exact ⟨ret_int HO.out.symm, by rw [hbx]; exact (HBW.out.drewN n).drewN 1⟩
        · by_cases h21 : bitI (numC h2 l2) j < bitI (numC h1 l1) j
          · have HO := Lib.hid (Q.out.2.1 h21)
            have d1 : decide (bitI (numC h1 l1) j < bitI (numC h2 l2) j) = false := decide_eq_false h12
            have d2 : decide (bitI (numC h2 l2) j < bitI (numC h1 l1) j) = true := decide_eq_true h21
            clear h12 h21 Q
            generalize bitI (numC h1 l1) j = p at *
            generalize bitI (numC h2 l2) j = q at *
            go_wp2
            go_region
            go_wp2
            go_region
            go_wp2
            go_ret
            first
              | exact ⟨ret_int HO.out.symm, ((HBW.out.drewN n).drewN 1).drewN 1⟩
              | exact ⟨ret_int HO.out.symm, by rw [hbx]; exact ((HBW.out.drewN n).drewN 1).drewN 1⟩
          · have HO := Lib.hid (Q.out.2.2 (by omega))
            have d1 : decide (bitI (numC h1 l1) j < bitI (numC h2 l2) j) = false := decide_eq_false h12
            have d2 : decide (bitI (numC h2 l2) j < bitI (numC h1 l1) j) = false := decide_eq_false h21
            clear h12 h21 Q
            generalize bitI (numC h1 l1) j = p at *
            generalize bitI (numC h2 l2) j = q at *
            go_wp2
            go_region
            go_wp2
            go_region
            go_wp2
            go_roundw
            case rel => exact ⟨j, n + 1 + 1, by omega, rfl, HO.out, rfl⟩
            case measure => simp [intOf]
  have hz0 := hS.1
  refine wp_region_noPanic ?_
  refine wp_region_held_drew (S := TwoB w bx #[.int .u64 (h1 : Int), .int .u64 (l1 : Int)] #[.int .u64 (h2 : Int), .int .u64 (l2 : Int)]) (by kernel_rfl) (TwoB.drew ⟨hS, HB.out⟩) (fun hHeld => ?_)
  clear hz0 hS HB
  generalize W0.drew = W1 at *
  have hz0 := hHeld.1.1
  refine wpAnyH_take (i := 0) (v := .agg #[.int .u64 (h1 : Int), .int .u64 (l1 : Int)]) rfl (by kernel_rfl) (by kernel_rfl) (by kernel_rfl) (fun _ _ _ h => h) (Or.inl ⟨by rfl, ?_⟩) hHeld ?_
  · intro W hSw
    obtain ⟨⟨-, hr1, hr2, hr3, hr4⟩, -⟩ := hSw
    go_simp
  try simp only [List.getElem_toArray, List.getElem_cons_zero, List.getElem_cons_succ, Act.put, List.setIfInBounds_toArray, List.set_cons_zero, List.set_cons_succ]
  refine wpAnyH_take (i := 2) (v := .agg #[.int .u64 (h2 : Int), .int .u64 (l2 : Int)]) rfl (by kernel_rfl) (by kernel_rfl) (by kernel_rfl) (fun _ _ _ h => h) (Or.inl ⟨by rfl, ?_⟩) hHeld ?_
  · intro W hSw
    obtain ⟨⟨-, hr1, hr2, hr3, hr4⟩, -⟩ := hSw
    go_simp
  try simp only [List.getElem_toArray, List.getElem_cons_zero, List.getElem_cons_succ, Act.put, List.setIfInBounds_toArray, List.set_cons_zero, List.set_cons_succ]
  all_goals
    first
      | refine wpAnyH_ready (rs := [1, 4, 5]) (by decide +kernel) (by simp) ?_
      | refine wpAnyH_ready (rs := [1, 4]) (by decide +kernel) (by simp) ?_
      | refine wpAnyH_ready (rs := [1, 5]) (by decide +kernel) (by simp) ?_
      | refine wpAnyH_ready (rs := [1]) (by decide +kernel) (by simp) ?_
      | refine wpAnyH_ready (rs := [3, 4, 5]) (by decide +kernel) (by simp) ?_
      | refine wpAnyH_ready (rs := [3, 4]) (by decide +kernel) (by simp) ?_
      | refine wpAnyH_ready (rs := [3, 5]) (by decide +kernel) (by simp) ?_
      | refine wpAnyH_ready (rs := [3]) (by decide +kernel) (by simp) ?_
      | refine wpAnyH_ready (rs := [4, 5]) (by decide +kernel) (by simp) ?_
      | refine wpAnyH_ready (rs := [4]) (by decide +kernel) (by simp) ?_
      | refine wpAnyH_ready (rs := [5]) (by decide +kernel) (by simp) ?_
  all_goals
    repeat' (first | exact AllReadyH.nil | refine AllReadyH.cons rfl (fun K hK => ?_) ?_)
  all_goals
    try simp only [List.getElem_toArray, List.getElem_cons_zero, List.getElem_cons_succ]
    go_simp
    try
      (first
        | (go_at_call 28; (with_reducible refine (HB1.out _).mono ?_); rintro e w1 ⟨rfl, hb1⟩
           try have r1 := ok_call hb1 (ok_new (arr_size _ _))
           try simp only [World.size_alloc, size_drew] at r1
           try have n1 := ok_ne r1
           try have m1 := ok_ne1 r1
           try have k1 := (ok_ne r1).symm
           try have r2 := ok_call hb1 (ok_old (ok_new (arr_size _ _)))
           try simp only [World.size_alloc, size_drew] at r2
           try have n2 := ok_ne r2
           try have m2 := ok_ne1 r2
           try have k2 := (ok_ne r2).symm)
        | (go_at_call 28; (with_reducible refine (HB2.out _).mono ?_); rintro e w2 ⟨rfl, hb2⟩
           try have r3 := ok_call hb2 (ok_new (arr_size _ _))
           try simp only [World.size_alloc, size_drew] at r3
           try have n3 := ok_ne r3
           try have m3 := ok_ne1 r3
           try have k3 := (ok_ne r3).symm
           try have r4 := ok_call hb2 (ok_old (ok_new (arr_size _ _)))
           try simp only [World.size_alloc, size_drew] at r4
           try have n4 := ok_ne r4
           try have m4 := ok_ne1 r4
           try have k4 := (ok_ne r4).symm
           try have r5 := ok_call hb2 r1
           try simp only [World.size_alloc, size_drew] at r5
           try have n5 := ok_ne r5
           try have m5 := ok_ne1 r5
           try have k5 := (ok_ne r5).symm
           try have r6 := ok_call hb2 (ok_old r1)
           try simp only [World.size_alloc, size_drew] at r6
           try have n6 := ok_ne r6
           try have m6 := ok_ne1 r6
           try have k6 := (ok_ne r6).symm
           try have r7 := ok_call hb2 r2
           try simp only [World.size_alloc, size_drew] at r7
           try have n7 := ok_ne r7
           try have m7 := ok_ne1 r7
           try have k7 := (ok_ne r7).symm
           try have r8 := ok_call hb2 (ok_old r2)
           try simp only [World.size_alloc, size_drew] at r8
           try have n8 := ok_ne r8
           try have m8 := ok_ne1 r8
           try have k8 := (ok_ne r8).symm))
    try dsimp only
    first
      | (with_reducible refine hK.out _ _ (TwoB.call hHeld hb2) (fun hHeld => ?_); have HT2 := Lib.hid hHeld)
      | with_reducible refine hK.out _ _ (TwoB.call hHeld hb1) (fun hHeld => ?_)
      | with_reducible refine hK.out _ _ (TwoB.alloc hHeld _) (fun hHeld => ?_)
    clear hK K
    have hz := hHeld.1.1
    try simp only [List.getElem_toArray, List.getElem_cons_zero, List.getElem_cons_succ, Act.put, List.setIfInBounds_toArray, List.set_cons_zero, List.set_cons_succ]
  all_goals
    first
      | refine wpAnyH_ready (rs := [1, 4, 5]) (by decide +kernel) (by simp) ?_
      | refine wpAnyH_ready (rs := [1, 4]) (by decide +kernel) (by simp) ?_
      | refine wpAnyH_ready (rs := [1, 5]) (by decide +kernel) (by simp) ?_
      | refine wpAnyH_ready (rs := [1]) (by decide +kernel) (by simp) ?_
      | refine wpAnyH_ready (rs := [3, 4, 5]) (by decide +kernel) (by simp) ?_
      | refine wpAnyH_ready (rs := [3, 4]) (by decide +kernel) (by simp) ?_
      | refine wpAnyH_ready (rs := [3, 5]) (by decide +kernel) (by simp) ?_
      | refine wpAnyH_ready (rs := [3]) (by decide +kernel) (by simp) ?_
      | refine wpAnyH_ready (rs := [4, 5]) (by decide +kernel) (by simp) ?_
      | refine wpAnyH_ready (rs := [4]) (by decide +kernel) (by simp) ?_
      | refine wpAnyH_ready (rs := [5]) (by decide +kernel) (by simp) ?_
  all_goals
    repeat' (first | exact AllReadyH.nil | refine AllReadyH.cons rfl (fun K hK => ?_) ?_)
  all_goals
    try simp only [List.getElem_toArray, List.getElem_cons_zero, List.getElem_cons_succ]
    go_simp
    try
      (first
        | (go_at_call 28; (with_reducible refine (HB1.out _).mono ?_); rintro e w1 ⟨rfl, hb1⟩
           try have r1 := ok_call hb1 (ok_new (arr_size _ _))
           try simp only [World.size_alloc, size_drew] at r1
           try have n1 := ok_ne r1
           try have m1 := ok_ne1 r1
           try have k1 := (ok_ne r1).symm
           try have r2 := ok_call hb1 (ok_old (ok_new (arr_size _ _)))
           try simp only [World.size_alloc, size_drew] at r2
           try have n2 := ok_ne r2
           try have m2 := ok_ne1 r2
           try have k2 := (ok_ne r2).symm)
        | (go_at_call 28; (with_reducible refine (HB2.out _).mono ?_); rintro e w2 ⟨rfl, hb2⟩
           try have r3 := ok_call hb2 (ok_new (arr_size _ _))
           try simp only [World.size_alloc, size_drew] at r3
           try have n3 := ok_ne r3
           try have m3 := ok_ne1 r3
           try have k3 := (ok_ne r3).symm
           try have r4 := ok_call hb2 (ok_old (ok_new (arr_size _ _)))
           try simp only [World.size_alloc, size_drew] at r4
           try have n4 := ok_ne r4
           try have m4 := ok_ne1 r4
           try have k4 := (ok_ne r4).symm
           try have r5 := ok_call hb2 r1
           try simp only [World.size_alloc, size_drew] at r5
           try have n5 := ok_ne r5
           try have m5 := ok_ne1 r5
           try have k5 := (ok_ne r5).symm
           try have r6 := ok_call hb2 (ok_old r1)
           try simp only [World.size_alloc, size_drew] at r6
           try have n6 := ok_ne r6
           try have m6 := ok_ne1 r6
           try have k6 := (ok_ne r6).symm
           try have r7 := ok_call hb2 r2
           try simp only [World.size_alloc, size_drew] at r7
           try have n7 := ok_ne r7
           try have m7 := ok_ne1 r7
           try have k7 := (ok_ne r7).symm
           try have r8 := ok_call hb2 (ok_old r2)
           try simp only [World.size_alloc, size_drew] at r8
           try have n8 := ok_ne r8
           try have m8 := ok_ne1 r8
           try have k8 := (ok_ne r8).symm))
    try dsimp only
    first
      | (with_reducible refine hK.out _ _ (TwoB.call hHeld hb2) (fun hHeld => ?_); have HT2 := Lib.hid hHeld)
      | with_reducible refine hK.out _ _ (TwoB.call hHeld hb1) (fun hHeld => ?_)
      | with_reducible refine hK.out _ _ (TwoB.alloc hHeld _) (fun hHeld => ?_)
    clear hK K
    have hz := hHeld.1.1
    try simp only [List.getElem_toArray, List.getElem_cons_zero, List.getElem_cons_succ, Act.put, List.setIfInBounds_toArray, List.set_cons_zero, List.set_cons_succ]
  all_goals
    first
      | refine wpAnyH_ready (rs := [1, 4, 5]) (by decide +kernel) (by simp) ?_
      | refine wpAnyH_ready (rs := [1, 4]) (by decide +kernel) (by simp) ?_
      | refine wpAnyH_ready (rs := [1, 5]) (by decide +kernel) (by simp) ?_
      | refine wpAnyH_ready (rs := [1]) (by decide +kernel) (by simp) ?_
      | refine wpAnyH_ready (rs := [3, 4, 5]) (by decide +kernel) (by simp) ?_
      | refine wpAnyH_ready (rs := [3, 4]) (by decide +kernel) (by simp) ?_
      | refine wpAnyH_ready (rs := [3, 5]) (by decide +kernel) (by simp) ?_
      | refine wpAnyH_ready (rs := [3]) (by decide +kernel) (by simp) ?_
      | refine wpAnyH_ready (rs := [4, 5]) (by decide +kernel) (by simp) ?_
      | refine wpAnyH_ready (rs := [4]) (by decide +kernel) (by simp) ?_
      | refine wpAnyH_ready (rs := [5]) (by decide +kernel) (by simp) ?_
  all_goals
    repeat' (first | exact AllReadyH.nil | refine AllReadyH.cons rfl (fun K hK => ?_) ?_)
  all_goals
    try simp only [List.getElem_toArray, List.getElem_cons_zero, List.getElem_cons_succ]
    go_simp
    try
      (first
        | (go_at_call 28; (with_reducible refine (HB1.out _).mono ?_); rintro e w1 ⟨rfl, hb1⟩
           try have r1 := ok_call hb1 (ok_new (arr_size _ _))
           try simp only [World.size_alloc, size_drew] at r1
           try have n1 := ok_ne r1
           try have m1 := ok_ne1 r1
           try have k1 := (ok_ne r1).symm
           try have r2 := ok_call hb1 (ok_old (ok_new (arr_size _ _)))
           try simp only [World.size_alloc, size_drew] at r2
           try have n2 := ok_ne r2
           try have m2 := ok_ne1 r2
           try have k2 := (ok_ne r2).symm)
        | (go_at_call 28; (with_reducible refine (HB2.out _).mono ?_); rintro e w2 ⟨rfl, hb2⟩
           try have r3 := ok_call hb2 (ok_new (arr_size _ _))
           try simp only [World.size_alloc, size_drew] at r3
           try have n3 := ok_ne r3
           try have m3 := ok_ne1 r3
           try have k3 := (ok_ne r3).symm
           try have r4 := ok_call hb2 (ok_old (ok_new (arr_size _ _)))
           try simp only [World.size_alloc, size_drew] at r4
           try have n4 := ok_ne r4
           try have m4 := ok_ne1 r4
           try have k4 := (ok_ne r4).symm
           try have r5 := ok_call hb2 r1
           try simp only [World.size_alloc, size_drew] at r5
           try have n5 := ok_ne r5
           try have m5 := ok_ne1 r5
           try have k5 := (ok_ne r5).symm
           try have r6 := ok_call hb2 (ok_old r1)
           try simp only [World.size_alloc, size_drew] at r6
           try have n6 := ok_ne r6
           try have m6 := ok_ne1 r6
           try have k6 := (ok_ne r6).symm
           try have r7 := ok_call hb2 r2
           try simp only [World.size_alloc, size_drew] at r7
           try have n7 := ok_ne r7
           try have m7 := ok_ne1 r7
           try have k7 := (ok_ne r7).symm
           try have r8 := ok_call hb2 (ok_old r2)
           try simp only [World.size_alloc, size_drew] at r8
           try have n8 := ok_ne r8
           try have m8 := ok_ne1 r8
           try have k8 := (ok_ne r8).symm))
    try dsimp only
    first
      | (with_reducible refine hK.out _ _ (TwoB.call hHeld hb2) (fun hHeld => ?_); have HT2 := Lib.hid hHeld)
      | with_reducible refine hK.out _ _ (TwoB.call hHeld hb1) (fun hHeld => ?_)
      | with_reducible refine hK.out _ _ (TwoB.alloc hHeld _) (fun hHeld => ?_)
    clear hK K
    have hz := hHeld.1.1
    try simp only [List.getElem_toArray, List.getElem_cons_zero, List.getElem_cons_succ, Act.put, List.setIfInBounds_toArray, List.set_cons_zero, List.set_cons_succ]
  all_goals
    first
      | refine wpAnyH_ready (rs := [1, 4, 5]) (by decide +kernel) (by simp) ?_
      | refine wpAnyH_ready (rs := [1, 4]) (by decide +kernel) (by simp) ?_
      | refine wpAnyH_ready (rs := [1, 5]) (by decide +kernel) (by simp) ?_
      | refine wpAnyH_ready (rs := [1]) (by decide +kernel) (by simp) ?_
      | refine wpAnyH_ready (rs := [3, 4, 5]) (by decide +kernel) (by simp) ?_
      | refine wpAnyH_ready (rs := [3, 4]) (by decide +kernel) (by simp) ?_
      | refine wpAnyH_ready (rs := [3, 5]) (by decide +kernel) (by simp) ?_
      | refine wpAnyH_ready (rs := [3]) (by decide +kernel) (by simp) ?_
      | refine wpAnyH_ready (rs := [4, 5]) (by decide +kernel) (by simp) ?_
      | refine wpAnyH_ready (rs := [4]) (by decide +kernel) (by simp) ?_
      | refine wpAnyH_ready (rs := [5]) (by decide +kernel) (by simp) ?_
  all_goals
    repeat' (first | exact AllReadyH.nil | refine AllReadyH.cons rfl (fun K hK => ?_) ?_)
  all_goals
    try simp only [List.getElem_toArray, List.getElem_cons_zero, List.getElem_cons_succ]
    go_simp
    try
      (first
        | (go_at_call 28; (with_reducible refine (HB1.out _).mono ?_); rintro e w1 ⟨rfl, hb1⟩
           try have r1 := ok_call hb1 (ok_new (arr_size _ _))
           try simp only [World.size_alloc, size_drew] at r1
           try have n1 := ok_ne r1
           try have m1 := ok_ne1 r1
           try have k1 := (ok_ne r1).symm
           try have r2 := ok_call hb1 (ok_old (ok_new (arr_size _ _)))
           try simp only [World.size_alloc, size_drew] at r2
           try have n2 := ok_ne r2
           try have m2 := ok_ne1 r2
           try have k2 := (ok_ne r2).symm)
        | (go_at_call 28; (with_reducible refine (HB2.out _).mono ?_); rintro e w2 ⟨rfl, hb2⟩
           try have r3 := ok_call hb2 (ok_new (arr_size _ _))
           try simp only [World.size_alloc, size_drew] at r3
           try have n3 := ok_ne r3
           try have m3 := ok_ne1 r3
           try have k3 := (ok_ne r3).symm
           try have r4 := ok_call hb2 (ok_old (ok_new (arr_size _ _)))
           try simp only [World.size_alloc, size_drew] at r4
           try have n4 := ok_ne r4
           try have m4 := ok_ne1 r4
           try have k4 := (ok_ne r4).symm
           try have r5 := ok_call hb2 r1
           try simp only [World.size_alloc, size_drew] at r5
           try have n5 := ok_ne r5
           try have m5 := ok_ne1 r5
           try have k5 := (ok_ne r5).symm
           try have r6 := ok_call hb2 (ok_old r1)
           try simp only [World.size_alloc, size_drew] at r6
           try have n6 := ok_ne r6
           try have m6 := ok_ne1 r6
           try have k6 := (ok_ne r6).symm
           try have r7 := ok_call hb2 r2
           try simp only [World.size_alloc, size_drew] at r7
           try have n7 := ok_ne r7
           try have m7 := ok_ne1 r7
           try have k7 := (ok_ne r7).symm
           try have r8 := ok_call hb2 (ok_old r2)
           try simp only [World.size_alloc, size_drew] at r8
           try have n8 := ok_ne r8
           try have m8 := ok_ne1 r8
           try have k8 := (ok_ne r8).symm))
    try dsimp only
    first
      | (with_reducible refine hK.out _ _ (TwoB.call hHeld hb2) (fun hHeld => ?_); have HT2 := Lib.hid hHeld)
      | with_reducible refine hK.out _ _ (TwoB.call hHeld hb1) (fun hHeld => ?_)
      | with_reducible refine hK.out _ _ (TwoB.alloc hHeld _) (fun hHeld => ?_)
    clear hK K
    have hz := hHeld.1.1
    try simp only [List.getElem_toArray, List.getElem_cons_zero, List.getElem_cons_succ, Act.put, List.setIfInBounds_toArray, List.set_cons_zero, List.set_cons_succ]
  all_goals
    first
      | refine wpAnyH_ready (rs := [6]) (by decide +kernel) (by simp) ?_
  all_goals
    repeat' (first | exact AllReadyH.nil | refine AllReadyH.cons rfl (fun K hK => ?_) ?_)
  all_goals
    try simp only [List.getElem_toArray, List.getElem_cons_zero, List.getElem_cons_succ]
    go_simp
    try dsimp only
    first
      | with_reducible refine hK.out _ _ ((HT2.out.alloc _).alloc _) (fun hHeld => ?_)
      | with_reducible refine hK.out _ _ (HT2.out.alloc _) (fun hHeld => ?_)
      | with_reducible refine hK.out _ _ ((HT2.out.store _ (by omega)).alloc _) (fun hHeld => ?_)
      | with_reducible refine hK.out _ _ (HT2.out.store _ (by omega)) (fun hHeld => ?_)
      | with_reducible refine hK.out _ _ ((HT2.out.store _ (by omega)).store _ (by omega)) (fun hHeld => ?_)
    clear hK K
    skip
    try simp only [List.getElem_toArray, List.getElem_cons_zero, List.getElem_cons_succ, Act.put, List.setIfInBounds_toArray, List.set_cons_zero, List.set_cons_succ]
  all_goals
    first
      | refine wpAnyH_ready (rs := [7]) (by decide +kernel) (by simp) ?_
  all_goals
    repeat' (first | exact AllReadyH.nil | refine AllReadyH.cons rfl (fun K hK => ?_) ?_)
  all_goals
    try simp only [List.getElem_toArray, List.getElem_cons_zero, List.getElem_cons_succ]
    go_simp
    try dsimp only
    first
      | with_reducible refine hK.out _ _ ((HT2.out.alloc _).alloc _) (fun hHeld => ?_)
      | with_reducible refine hK.out _ _ (HT2.out.alloc _) (fun hHeld => ?_)
      | with_reducible refine hK.out _ _ ((HT2.out.store _ (by omega)).alloc _) (fun hHeld => ?_)
      | with_reducible refine hK.out _ _ (HT2.out.store _ (by omega)) (fun hHeld => ?_)
      | with_reducible refine hK.out _ _ ((HT2.out.store _ (by omega)).store _ (by omega)) (fun hHeld => ?_)
    clear hK K
    skip
    try simp only [List.getElem_toArray, List.getElem_cons_zero, List.getElem_cons_succ, Act.put, List.setIfInBounds_toArray, List.set_cons_zero, List.set_cons_succ]
  all_goals
    refine wpAnyH_done (by kernel_rfl) ?_ _
    refine NoPanic.normal ?_
    refine REST _ _ _ _ _ ?_ ?_ hHeld.2
    · (first
        | (with_reducible refine HasRow.new ?_ (arr_size _ _); simp; done)
        | (with_reducible refine HasRow.old (HasRow.new ?_ (arr_size _ _)); simp; done)
        | (with_reducible refine HasRow.at ?_ (arr_size _ _); assumption)
        | (with_reducible refine HasRow.old (HasRow.at ?_ (arr_size _ _)); assumption)
        | (with_reducible refine HasRow.far ?_ (HasRow.at ?_ (arr_size _ _)) <;> (first | assumption | (apply Ne.symm; assumption) | omega))
        | (with_reducible refine HasRow.at (ok_far ?_ ?_) (arr_size _ _) <;> (first | assumption | (apply Ne.symm; assumption) | omega)))
    · (first
        | (with_reducible refine HasRow.new ?_ (arr_size _ _); simp; done)
        | (with_reducible refine HasRow.old (HasRow.new ?_ (arr_size _ _)); simp; done)
        | (with_reducible refine HasRow.at ?_ (arr_size _ _); assumption)
        | (with_reducible refine HasRow.old (HasRow.at ?_ (arr_size _ _)); assumption)
        | (with_reducible refine HasRow.far ?_ (HasRow.at ?_ (arr_size _ _)) <;> (first | assumption | (apply Ne.symm; assumption) | omega))
        | (with_reducible refine HasRow.at (ok_far ?_ ?_) (arr_size _ _) <;> (first | assumption | (apply Ne.symm; assumption) | omega)))
end Go.Proofs.Ytholhpkjcomboaa
