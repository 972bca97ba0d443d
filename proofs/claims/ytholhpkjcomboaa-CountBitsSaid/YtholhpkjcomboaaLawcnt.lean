/- Layer 4: the laws: each walk ends with true. -/
import Derived.Test.YtholhpkjcomboaaCountio
import Derived.Deep.RegionHeld3
namespace Go.Proofs.Ytholhpkjcomboaa
open Go.RowKit
set_option linter.unusedVariables false
set_option linter.unusedSimpArgs false

/-- Are two counts the same? Behind a name, so that the walk decides nothing of it by itself. -/
def eqC (a b c d : Int) : Bool := a == c && b == d
theorem eqC_self (a b : Int) : eqC a b a b = true := by simp [eqC]
theorem run_eqlC (a b c d : Int) (w : World) : (binOp .eql 24 (.agg #[.int .u64 a, .int .u64 b]) (.agg #[.int .u64 c, .int .u64 d])).run Try.prog w = .ok (.bool (eqC a b c d)) w := by
  unfold eqC
  by_cases h1 : a = c <;> by_cases h2 : b = d <;> simp [go_sem, h1, h2]
theorem run_neqC (a b c d : Int) (w : World) : (binOp .neq 24 (.agg #[.int .u64 a, .int .u64 b]) (.agg #[.int .u64 c, .int .u64 d])).run Try.prog w = .ok (.bool (!eqC a b c d)) w := by
  unfold eqC
  by_cases h1 : a = c <;> by_cases h2 : b = d <;> simp [go_sem, h1, h2]
attribute [go_sem ↓] run_eqlC run_neqC
theorem exec_neqC {ρ : Operand → Value} {dst : Option Tmp} {x y : Operand} {ty : TypeId} {pos : String} {after : Array Edge} {guard : Option (Nat × Bool)} {p q r s : Int} (hx : ρ x = .agg #[.int .u64 p, .int .u64 q]) (hy : ρ y = .agg #[.int .u64 r, .int .u64 s]) (w : World) :
    (execOp ρ ⟨dst, .binOp .neq 24 x y 24, ty, pos, after, guard⟩).run Try.prog w = .ok (.value (.bool (!eqC p q r s))) w := by
  simp [execOp, hx, hy, go_sem]
theorem exec_eqlC {ρ : Operand → Value} {dst : Option Tmp} {x y : Operand} {ty : TypeId} {pos : String} {after : Array Edge} {guard : Option (Nat × Bool)} {p q r s : Int} (hx : ρ x = .agg #[.int .u64 p, .int .u64 q]) (hy : ρ y = .agg #[.int .u64 r, .int .u64 s]) (w : World) :
    (execOp ρ ⟨dst, .binOp .eql 24 x y 24, ty, pos, after, guard⟩).run Try.prog w = .ok (.value (.bool (eqC p q r s))) w := by
  simp [execOp, hx, hy, go_sem]
theorem wp_neqC {dst : Option Tmp} {x y : Operand} {ty : TypeId} {pos : String} {after : Array Edge} {guard : Option (Nat × Bool)} {a : Act} {w : World} {K : Act → World → Prop} {Q : Exit → Act → World → Prop} {p q r s : Int} (hx : a.eval x = .agg #[.int .u64 p, .int .u64 q]) (hy : a.eval y = .agg #[.int .u64 r, .int .u64 s])
    (h : K (a.put dst (.bool (!eqC p q r s))) w) : Oper.wp Try.prog ⟨dst, .binOp .neq 24 x y 24, ty, pos, after, guard⟩ a w K Q := by
  unfold Oper.wp
  rw [exec_neqC hx hy]
  exact h
theorem wp_eqlC {dst : Option Tmp} {x y : Operand} {ty : TypeId} {pos : String} {after : Array Edge} {guard : Option (Nat × Bool)} {a : Act} {w : World} {K : Act → World → Prop} {Q : Exit → Act → World → Prop} {p q r s : Int} (hx : a.eval x = .agg #[.int .u64 p, .int .u64 q]) (hy : a.eval y = .agg #[.int .u64 r, .int .u64 s])
    (h : K (a.put dst (.bool (eqC p q r s))) w) : Oper.wp Try.prog ⟨dst, .binOp .eql 24 x y 24, ty, pos, after, guard⟩ a w K Q := by
  unfold Oper.wp
  rw [exec_eqlC hx hy]
  exact h
attribute [go_sem] eqC_self
theorem wakeC1 : cOk (numC 0 18446744073709551615 + 1) = true ∧ cHi (numC 0 18446744073709551615 + 1) = 1 ∧ cLo (numC 0 18446744073709551615 + 1) = 0 := by decide +kernel
theorem wakeC2 : fitsB (numC 0 2305843009213693952) 64 = false := by decide +kernel
set_option maxHeartbeats 1000000 in
theorem wakesC_any (w : World) : Calls Try.prog 8 #[] w fun e w' => e = .returned (.bool true) ∧ Below w.heap.size w w' := by
  have HA := Lib.hid (fun W => add_any 0 18446744073709551615 1 (by omega) (by omega) (by omega) W)
  have HF := Lib.hid (fun W => fits_any 0 2305843009213693952 (by omega) (by omega) 64 W)
  obtain ⟨e1, e2, e3⟩ := wakeC1
  rw [e1, e2, e3] at HA
  rw [wakeC2] at HF
  clear e1 e2 e3
  simp only [Int.natCast_zero, Int.natCast_one] at HA HF
  go_enter Try.func8, Try.ntmps8
  go_wp2_with fail
  refine (HA.out _).mono ?_
  rintro e w1 ⟨rfl, hb1⟩
  have hB1 := hb1.alloc hb1.size (.cells #[.int .u64 1, .int .u64 0] 24)
  clear hb1
  go_wp2_with fail
  refine (HF.out _).mono ?_
  rintro e w2 ⟨rfl, hb2⟩
  have hB2 := Lib.hid (hB1.trans (hb2.mono hB1.size))
  clear hB1 hb2
  go_wp2
  go_ret
  exact ⟨rfl, hB2.out⟩
/-! ### Boxes of structs behind calls -/
theorem box_call {W W' : World} {n k : Nat} (hb : Below W.heap.size W W') (h : RowOk W n k) : RowOk W' n k ∧ rowAt W' n = rowAt W n ∧ n ≠ W'.heap.size := by
  have hr := h.below hb h.lt
  refine ⟨hr, ?_, Nat.ne_of_lt hr.lt⟩
  unfold rowAt
  rw [hb.block n h.lt]
theorem box_old {W W' : World} {o : Obj} {n k : Nat} (hb : Below (W.alloc o).heap.size (W.alloc o) W') (h : RowOk W n k) : RowOk W' n k ∧ rowAt W' n = rowAt W n ∧ n ≠ W'.heap.size := by
  have h1 : RowOk (W.alloc o) n k := (RowOk_alloc_past h.lt).2 h
  have h2 : rowAt (W.alloc o) n = rowAt W n := rowAt_alloc_past h.lt
  rw [← h2]; exact box_call hb h1
theorem box_new {W W' : World} {c : Array Value} {t : TypeId} {k : Nat} (hb : Below (W.alloc (.cells c t)).heap.size (W.alloc (.cells c t)) W') (h : c.size = k) : RowOk W' W.heap.size k ∧ rowAt W' W.heap.size = c ∧ W.heap.size ≠ W'.heap.size := by
  have h1 : RowOk (W.alloc (.cells c t)) W.heap.size k := (RowOk_alloc_at rfl).2 h
  have h2 : rowAt (W.alloc (.cells c t)) W.heap.size = c := rowAt_alloc_at rfl
  have h3 := box_call hb h1
  rw [h2] at h3; exact h3
/-- What was added is taken away again. -/
theorem cOk_back (hi lo n : Nat) (hh : hi < 18446744073709551616) (hl : lo < 18446744073709551616) (hn : n < 18446744073709551616) (h : cOk (numC hi lo + n) = true) :
    cOk (subC (numC (cHi (numC hi lo + n)) (cLo (numC hi lo + n))) n) = true ∧ cHi (subC (numC (cHi (numC hi lo + n)) (cLo (numC hi lo + n))) n) = hi ∧ cLo (subC (numC (cHi (numC hi lo + n)) (cLo (numC hi lo + n))) n) = lo := by
  have h1 : numC hi lo + n < 340282366920938463463374607431768211456 := by unfold cOk at h; exact of_decide_eq_true h
  have h2 : numC (cHi (numC hi lo + n)) (cLo (numC hi lo + n)) = numC hi lo + n := by unfold cHi cLo; rw [if_pos h1, if_pos h1]; unfold numC; omega
  have h3 : numC hi lo < 340282366920938463463374607431768211456 := numC_lt hh hl
  have h4 : subC (numC hi lo + n) n = numC hi lo := by unfold subC; rw [if_pos (by omega)]; omega
  rw [h2, h4]
  unfold cOk cHi cLo
  rw [if_pos h3, if_pos h3, decide_eq_true h3]
  unfold numC
  refine ⟨rfl, by omega, by omega⟩
set_option maxHeartbeats 2000000 in
theorem countAdds_walk (w : World) (hi lo : Nat) (hh : hi < 18446744073709551616) (hl : lo < 18446744073709551616) (n : Nat) (hn : n < 18446744073709551616) :
    Calls Try.prog 3 #[.agg #[.int .u64 (hi : Int), .int .u64 (lo : Int)], .int .u64 (n : Int)] w fun e w' => e = .returned (.bool true) ∧ Below w.heap.size w w' := by
  go_enter Try.func3, Try.ntmps3
  go_wp2_with fail
  refine (wakesC_any _).mono ?_
  rintro e w1 ⟨rfl, hb1⟩
  have B1 := ((Below.refl w.heap.size w).alloc (Nat.le_refl _) (.cells #[.int .u64 (hi : Int), .int .u64 (lo : Int)] 24)).trans (hb1.mono (by simp))
  obtain ⟨c1, c2, c3⟩ := box_new (k := 2) hb1 rfl
  clear hb1
  go_wp2_with fail
  refine (add_any hi lo n hh hl hn _).mono ?_
  rintro e w2 ⟨rfl, hb2⟩
  have ho := cOk_back hi lo n hh hl hn
  have r1 := cHi_lt (numC hi lo + n)
  have r2 := cLo_lt (numC hi lo + n)
  have HSB := Lib.hid (fun W => sub_any (cHi (numC hi lo + n)) (cLo (numC hi lo + n)) n r1 r2 hn W)
  have HRA := Lib.hid (fun W => refAdd_any hi lo n hh hl hn W)
  have HRS := Lib.hid (fun W => refSub_any hi lo n hh hl hn W)
  have HS := Lib.hid (fun W => sub_any hi lo n hh hl hn W)
  generalize subC (numC (cHi (numC hi lo + n)) (cLo (numC hi lo + n))) n = S2 at *
  generalize cHi (numC hi lo + n) = ah at *
  generalize cLo (numC hi lo + n) = al at *
  generalize cOk (numC hi lo + n) = ak at *
  generalize subC (numC hi lo) n = S at *
  generalize cHi S = sh at *
  generalize cLo S = sl at *
  generalize cOk S = sk at *
  have B2 := B1.trans (hb2.mono B1.size)
  obtain ⟨d1, d2, d3⟩ := box_call hb2 c1
  rw [c2] at d2
  clear c1 c2 c3 hb2 B1
  go_wp2_with fail
  refine (HS.out _).mono ?_
  rintro e w3 ⟨rfl, hb3⟩
  have B3 := (B2.alloc B2.size _).trans (hb3.mono (by simp; have := B2.size; omega))
  obtain ⟨c1, c2, c3⟩ := box_old hb3 d1
  rw [d2] at c2
  obtain ⟨a1, a2, a3⟩ := box_new (k := 2) hb3 rfl
  clear d1 d2 d3 hb3 B2
  go_wp2_with fail
  refine (HRA.out _).mono ?_
  rintro e w4 ⟨rfl, hb4⟩
  have B4 := (B3.alloc B3.size _).trans (hb4.mono (by simp; have := B3.size; omega))
  obtain ⟨d1, d2, d3⟩ := box_old hb4 c1
  rw [c2] at d2
  obtain ⟨e1, e2, e3⟩ := box_old hb4 a1
  rw [a2] at e2
  obtain ⟨f1, f2, f3⟩ := box_new (k := 2) hb4 rfl
  clear c1 c2 c3 a1 a2 a3 hb4 B3
  go_wp2_with fail
  refine (HRS.out _).mono ?_
  rintro e w5 ⟨rfl, hb5⟩
  have B5 := (B4.alloc B4.size _).trans (hb5.mono (by simp; have := B4.size; omega))
  obtain ⟨c1, c2, c3⟩ := box_old hb5 d1
  rw [d2] at c2
  obtain ⟨a1, a2, a3⟩ := box_old hb5 e1
  rw [e2] at a2
  obtain ⟨b1, b2, b3⟩ := box_old hb5 f1
  rw [f2] at b2
  obtain ⟨x1, x2, x3⟩ := box_new (k := 2) hb5 rfl
  clear d1 d2 d3 e1 e2 e3 f1 f2 f3 hb5 B4
  have Y := Lib.hid (And.intro b1 (And.intro b2 b3))
  clear b1 b2 b3
  have X := Lib.hid (And.intro x1 (And.intro x2 x3))
  clear x1 x2 x3
  go_wp2_with fail
  obtain ⟨x1, x2, x3⟩ := X.out
  go_simp
  go_step
  go_step
  refine wp_neqC rfl rfl ?_
  rw [eqC_self]
  go_wp2_with fail
  obtain ⟨b1, b2, b3⟩ := Y.out
  have W5 := Lib.hid (And.intro c1 (And.intro c2 c3))
  clear c1 c2 c3
  go_simp
  go_step
  go_step
  go_step
  refine BigFrame.wpList_want (by rfl) (fun K hK => ?_)
  refine wp_neqC rfl rfl (hK _ _ ?_)
  rw [eqC_self]
  obtain ⟨c1, c2, c3⟩ := W5.out
  go_wp2_with fail
  refine (HSB.out _).mono ?_
  rintro e w6 ⟨rfl, hb6⟩
  have B6 := (B5.alloc B5.size _).trans (hb6.mono (by simp; have := B5.size; omega))
  obtain ⟨d1, d2, d3⟩ := box_old hb6 c1
  rw [c2] at d2
  clear c1 c2 c3 a1 a2 a3 b1 b2 b3 x1 x2 x3 hb6 B5 X Y W5
  have HB := Lib.hid B6
  clear B6
  cases ak
  · go_wp2
    go_ret
    exact ⟨rfl, HB.out.alloc HB.out.size _⟩
  · obtain ⟨o1, o2, o3⟩ := ho rfl
    rw [o1, o2, o3]
    clear ho
    have D := Lib.hid (And.intro d1 (And.intro d2 d3))
    clear d1 d2 d3
    go_wp2_with fail
    obtain ⟨d1, d2, d3⟩ := D.out
    go_simp
    go_step
    refine BigFrame.wpList_want (by rfl) (fun K hK => ?_)
    refine wp_eqlC rfl rfl (hK _ _ ?_)
    rw [eqC_self]
    go_wp2
    go_ret
    exact ⟨rfl, HB.out.alloc HB.out.size _⟩
set_option maxHeartbeats 2000000 in
theorem countOrder_walk (w : World) (hi lo : Nat) (hh : hi < 18446744073709551616) (hl : lo < 18446744073709551616) (n : Nat) (hn : n < 18446744073709551616) :
    Calls Try.prog 6 #[.agg #[.int .u64 (hi : Int), .int .u64 (lo : Int)], .int .u64 (n : Int)] w fun e w' => e = .returned (.bool true) ∧ Below w.heap.size w w' := by
  go_enter Try.func6, Try.ntmps6
  go_wp2_with fail
  refine (wakesC_any _).mono ?_
  rintro e w1 ⟨rfl, hb1⟩
  have B1 := ((Below.refl w.heap.size w).alloc (Nat.le_refl _) (.cells #[.int .u64 (hi : Int), .int .u64 (lo : Int)] 24)).trans (hb1.mono (by simp))
  obtain ⟨c1, c2, c3⟩ := box_new (k := 2) hb1 rfl
  clear hb1
  go_wp2_with fail
  refine (add_any hi lo n hh hl hn _).mono ?_
  rintro e w2 ⟨rfl, hb2⟩
  have B2 := B1.trans (hb2.mono B1.size)
  obtain ⟨d1, d2, d3⟩ := box_call hb2 c1
  rw [c2] at d2
  clear c1 c2 c3 hb2 B1
  have HB := Lib.hid B2
  by_cases hk : numC hi lo + n < 340282366920938463463374607431768211456
  · have ek : cOk (numC hi lo + n) = true := decide_eq_true hk
    have r1 := cHi_lt (numC hi lo + n)
    have r2 := cLo_lt (numC hi lo + n)
    have HC := Lib.hid (fun W => compare_any hi lo (cHi (numC hi lo + n)) (cLo (numC hi lo + n)) hh hl r1 r2 W)
    have HD := Lib.hid (fun W => compare_any (cHi (numC hi lo + n)) (cLo (numC hi lo + n)) hi lo r1 r2 hh hl W)
    have e2 : numC (cHi (numC hi lo + n)) (cLo (numC hi lo + n)) = numC hi lo + n := by unfold cHi cLo; rw [if_pos hk, if_pos hk]; unfold numC; omega
    rw [e2] at HC HD
    rw [ek]
    clear ek e2 hk
    generalize cHi (numC hi lo + n) = ah at *
    generalize cLo (numC hi lo + n) = al at *
    by_cases h0 : n = 0
    · subst h0
      have e3 : cmpC (numC hi lo) (numC hi lo + 0) = 0 := by rw [Nat.add_zero]; exact if_pos rfl
      rw [e3] at HC
      rw [Int.natCast_zero]
      clear e3
      go_wp2_with fail
      refine (HC.out _).mono ?_
      rintro e w3 ⟨rfl, hb3⟩
      have HB3 := Lib.hid ((HB.out.alloc HB.out.size _).trans (hb3.mono (by simp; have := HB.out.size; omega)))
      clear hb3
      go_wp2
      go_ret
      exact ⟨rfl, HB3.out⟩
    · have e3 : cmpC (numC hi lo) (numC hi lo + n) = -1 := by unfold cmpC; rw [if_neg (by omega), if_pos (by omega)]
      have e4 : cmpC (numC hi lo + n) (numC hi lo) = 1 := by unfold cmpC; rw [if_neg (by omega), if_neg (by omega)]
      have e0 : ((n : Int) == 0) = false := by rw [beq_eq_false_iff_ne]; omega
      rw [e3] at HC
      rw [e4] at HD
      clear e3 e4
      go_wp2_with fail
      refine (HC.out _).mono ?_
      rintro e w3 ⟨rfl, hb3⟩
      have B3 := (B2.alloc B2.size _).trans (hb3.mono (by simp; have := B2.size; omega))
      obtain ⟨c1, c2, c3⟩ := box_old hb3 d1
      rw [d2] at c2
      obtain ⟨a1, a2, a3⟩ := box_new (k := 2) hb3 rfl
      clear d1 d2 d3 hb3 B2
      go_wp2_with fail
      refine (HD.out _).mono ?_
      rintro e w4 ⟨rfl, hb4⟩
      have HB4 := Lib.hid (B3.trans (hb4.mono B3.size))
      clear hb4 B3 c1 c2 c3 a1 a2 a3
      go_wp2
      go_ret
      exact ⟨rfl, HB4.out⟩
  · have ek : cOk (numC hi lo + n) = false := decide_eq_false hk
    rw [ek]
    clear ek hk
    go_wp2
    go_ret
    exact ⟨rfl, HB.out.alloc HB.out.size _⟩
theorem keep_two {n m : Nat} {a b : Array Value} {W W' : World} (hb : Below W.heap.size W W') (h : (n < W.heap.size ∧ m < W.heap.size) ∧ RowOk W n 2 ∧ rowAt W n = a ∧ RowOk W m 2 ∧ rowAt W m = b) : (n < W'.heap.size ∧ m < W'.heap.size) ∧ RowOk W' n 2 ∧ rowAt W' n = a ∧ RowOk W' m 2 ∧ rowAt W' m = b := by
  obtain ⟨⟨h1, h2⟩, h3, h4, h5, h6⟩ := h
  obtain ⟨x1, x2, x3⟩ := box_call hb h3
  obtain ⟨y1, y2, y3⟩ := box_call hb h5
  exact ⟨⟨x1.lt, y1.lt⟩, x1, x2.trans h4, y1, y2.trans h6⟩
theorem mods_math (V n k : Nat) (hk : 1 ≤ k) (hk2 : k ≤ 65536) : modC (V + n) k = ((V + n) % k : Nat) ∧ modC V k = (V % k : Nat) ∧ (V + n) % k = (V % k + n % k) % k := by
  refine ⟨?_, ?_, Nat.add_mod _ _ _⟩ <;> (unfold modC; rw [if_pos (by omega)]; simp)
theorem mods_end (v n m : Nat) (hv : v < m + 1) (hn : n < 4294967296) (hm : m < 65536) : (((v : Int) + n) % ((m : Int) + 1) == (IntKind.i64.wrap ((v : Int) + (IntKind.i64.wrap (n : Int)).tmod ((m : Int) + 1))).tmod ((m : Int) + 1)) = true := by
  have h0 : IntKind.i64.wrap (n : Int) = (n : Int) := by rw [IntKind.wrap_i64]; omega
  have h1 : (n : Int) % ((m : Int) + 1) = ((n % (m + 1) : Nat) : Int) := by rw [Int.natCast_emod]; rfl
  have h2 : n % (m + 1) < m + 1 := Nat.mod_lt _ (by omega)
  have h3 : IntKind.i64.wrap ((v : Int) + ((n % (m + 1) : Nat) : Int)) = (v : Int) + ((n % (m + 1) : Nat) : Int) := by rw [IntKind.wrap_i64]; omega
  have h4 : (n : Int).tmod ((m : Int) + 1) = (n : Int) % ((m : Int) + 1) := Int.tmod_eq_emod_of_nonneg (by omega)
  rw [beq_iff_eq, h0, h4, h1, h3, Int.tmod_eq_emod_of_nonneg (by omega), ← h1, Int.add_emod_emod]
set_option maxHeartbeats 2000000 in
theorem countMods_walk (w : World) (hi lo : Nat) (hh : hi < 18446744073709551616) (hl : lo < 18446744073709551616) (n : Nat) (hn : n < 4294967296) (m : Nat) (hm : m < 65536) :
    Calls Try.prog 7 #[.agg #[.int .u64 (hi : Int), .int .u64 (lo : Int)], .int .u32 (n : Int), .int .u16 (m : Int)] w fun e w' => e = .returned (.bool true) ∧ Below w.heap.size w w' := by
  go_enter Try.func7, Try.ntmps7
  go_wp2_with fail
  refine (wakesC_any _).mono ?_
  rintro e w1 ⟨rfl, hb1⟩
  have B1 := ((Below.refl w.heap.size w).alloc (Nat.le_refl _) (.cells #[.int .u64 (hi : Int), .int .u64 (lo : Int)] 24)).trans (hb1.mono (by simp))
  obtain ⟨c1, c2, c3⟩ := box_new (k := 2) hb1 rfl
  clear hb1
  go_wp2_with fail
  refine (add_any hi lo n hh hl (by omega) _).mono ?_
  rintro e w2 ⟨rfl, hb2⟩
  have B2 := B1.trans (hb2.mono B1.size)
  obtain ⟨d1, d2, d3⟩ := box_call hb2 c1
  rw [c2] at d2
  clear c1 c2 c3 hb2 B1
  have HB := Lib.hid B2
  by_cases hk : numC hi lo + n < 340282366920938463463374607431768211456
  · have ek : cOk (numC hi lo + n) = true := decide_eq_true hk
    have r1 := cHi_lt (numC hi lo + n)
    have r2 := cLo_lt (numC hi lo + n)
    have e2 : numC (cHi (numC hi lo + n)) (cLo (numC hi lo + n)) = numC hi lo + n := by unfold cHi cLo; rw [if_pos hk, if_pos hk]; unfold numC; omega
    have HC := Lib.hid (fun W => mod_any hi lo hh hl ((m + 1 : Nat) : Int) (by omega) (by omega) W)
    have HD := Lib.hid (fun W => mod_any (cHi (numC hi lo + n)) (cLo (numC hi lo + n)) r1 r2 ((m + 1 : Nat) : Int) (by omega) (by omega) W)
    obtain ⟨m1, m2, m3⟩ := mods_math (numC hi lo) n (m + 1) (by omega) (by omega)
    rw [e2, m1, m3] at HD
    rw [m2] at HC
    rw [ek]
    have v1 : numC hi lo % (m + 1) < m + 1 := Nat.mod_lt _ (by omega)
    have hkI : (((m + 1 : Nat) : Int)) = (m : Int) + 1 := by omega
    rw [hkI] at HC HD
    clear ek e2 hk m1 m2 m3 hkI
    generalize cHi (numC hi lo + n) = ah at *
    generalize cLo (numC hi lo + n) = al at *
    generalize numC hi lo % (m + 1) = v at *
    have hS : (w.heap.size < (w2.alloc (.cells #[.int .u64 (ah : Int), .int .u64 (al : Int)] 24)).heap.size ∧ w2.heap.size < (w2.alloc (.cells #[.int .u64 (ah : Int), .int .u64 (al : Int)] 24)).heap.size) ∧ RowOk (w2.alloc (.cells #[.int .u64 (ah : Int), .int .u64 (al : Int)] 24)) w.heap.size 2 ∧ rowAt (w2.alloc (.cells #[.int .u64 (ah : Int), .int .u64 (al : Int)] 24)) w.heap.size = #[.int .u64 (hi : Int), .int .u64 (lo : Int)] ∧ RowOk (w2.alloc (.cells #[.int .u64 (ah : Int), .int .u64 (al : Int)] 24)) w2.heap.size 2 ∧ rowAt (w2.alloc (.cells #[.int .u64 (ah : Int), .int .u64 (al : Int)] 24)) w2.heap.size = #[.int .u64 (ah : Int), .int .u64 (al : Int)] :=
      ⟨⟨by have := d1.lt; simp; omega, by simp⟩, (RowOk_alloc_past d1.lt).2 d1, (rowAt_alloc_past d1.lt).trans d2, (RowOk_alloc_at rfl).2 rfl, rowAt_alloc_at rfl⟩
    have HB3 := Lib.hid (HB.out.alloc HB.out.size (.cells #[.int .u64 (ah : Int), .int .u64 (al : Int)] 24))
    clear B2 HB
    go_wp2_with fail
    generalize w2.alloc (.cells #[.int .u64 (ah : Int), .int .u64 (al : Int)] 24) = W0 at *
    generalize w2.heap.size = bd at *
    generalize hbc : w.heap.size = bc at *
    clear d1 d2 d3
    have hkk : (((m : Int) + 1) == 0) = false := by rw [beq_eq_false_iff_ne]; omega
    have hk0 : ¬ ((m : Int) + 1 = 0) := by omega
    have HE := Lib.hid (mods_end v n m v1 hn hm)
    go_region_held3 (fun W => (bc < W.heap.size ∧ bd < W.heap.size) ∧ RowOk W bc 2 ∧ rowAt W bc = #[.int .u64 (hi : Int), .int .u64 (lo : Int)] ∧ RowOk W bd 2 ∧ rowAt W bd = #[.int .u64 (ah : Int), .int .u64 (al : Int)])
      (first | exact hS | assumption | exact keep_two (by assumption) (by assumption))
      (first
        | (go_at_call 17; (with_reducible refine (HD.out _).mono ?_); rintro e wa ⟨rfl, hba⟩)
        | (go_at_call 17; (with_reducible refine (HC.out _).mono ?_); rintro e wb ⟨rfl, hbb⟩))
    all_goals
      have z1 : bc ≤ W0.drew.heap.size := by have := HB3.out.size; rw [hbc] at this; exact this
      have HBF := Lib.hid ((HB3.out.drewN 1).trans ((hba.mono z1).trans (hbb.mono (Nat.le_trans z1 hba.size))))
      rw [HE.out]
      go_wp2
      go_ret
      exact ⟨rfl, by rw [hbc]; exact HBF.out⟩
  · have ek : cOk (numC hi lo + n) = false := decide_eq_false hk
    rw [ek]
    clear ek hk
    generalize cHi (numC hi lo + n) = ah at *
    generalize cLo (numC hi lo + n) = al at *
    have hS : (w.heap.size < (w2.alloc (.cells #[.int .u64 (ah : Int), .int .u64 (al : Int)] 24)).heap.size ∧ w2.heap.size < (w2.alloc (.cells #[.int .u64 (ah : Int), .int .u64 (al : Int)] 24)).heap.size) ∧ RowOk (w2.alloc (.cells #[.int .u64 (ah : Int), .int .u64 (al : Int)] 24)) w.heap.size 2 ∧ rowAt (w2.alloc (.cells #[.int .u64 (ah : Int), .int .u64 (al : Int)] 24)) w.heap.size = #[.int .u64 (hi : Int), .int .u64 (lo : Int)] ∧ RowOk (w2.alloc (.cells #[.int .u64 (ah : Int), .int .u64 (al : Int)] 24)) w2.heap.size 2 ∧ rowAt (w2.alloc (.cells #[.int .u64 (ah : Int), .int .u64 (al : Int)] 24)) w2.heap.size = #[.int .u64 (ah : Int), .int .u64 (al : Int)] :=
      ⟨⟨by have := d1.lt; simp; omega, by simp⟩, (RowOk_alloc_past d1.lt).2 d1, (rowAt_alloc_past d1.lt).trans d2, (RowOk_alloc_at rfl).2 rfl, rowAt_alloc_at rfl⟩
    have HB3 := Lib.hid (HB.out.alloc HB.out.size (.cells #[.int .u64 (ah : Int), .int .u64 (al : Int)] 24))
    clear B2 HB
    go_wp2_with fail
    generalize w2.alloc (.cells #[.int .u64 (ah : Int), .int .u64 (al : Int)] 24) = W0 at *
    generalize w2.heap.size = bd at *
    generalize hbc : w.heap.size = bc at *
    clear d1 d2 d3
    have hk0 : ¬ ((m : Int) + 1 = 0) := by omega
    clear hS
    refine wp_region_noPanic ?_
    refine wp_region_any (by kernel_rfl) ?_
    refine wpAny_take (i := 0) (v := .bool false) rfl (by kernel_rfl) (by kernel_rfl) (by kernel_rfl) (fun _ _ _ h => h) (Or.inl ⟨by rfl, fun w => by rfl⟩) ?_
    try simp only [List.getElem_toArray, List.getElem_cons_zero, List.getElem_cons_succ, Act.put, List.setIfInBounds_toArray, List.set_cons_zero, List.set_cons_succ]
    refine wpAny_take (i := 1) (v := .bool true) rfl (by kernel_rfl) (by kernel_rfl) (by kernel_rfl) (fun _ _ _ h => h) (Or.inl ⟨by rfl, fun w => by rfl⟩) ?_
    try simp only [List.getElem_toArray, List.getElem_cons_zero, List.getElem_cons_succ, Act.put, List.setIfInBounds_toArray, List.set_cons_zero, List.set_cons_succ]
    refine wpAny_take (i := 2) (v := .bool true) rfl (by kernel_rfl) (by kernel_rfl) (by kernel_rfl) (fun _ _ _ h => h) (Or.inl ⟨by rfl, fun w => by rfl⟩) ?_
    try simp only [List.getElem_toArray, List.getElem_cons_zero, List.getElem_cons_succ, Act.put, List.setIfInBounds_toArray, List.set_cons_zero, List.set_cons_succ]
    refine wpAny_take (i := 3) (v := undef) rfl (by kernel_rfl) (by kernel_rfl) (by kernel_rfl) (fun _ _ _ h => h) (Or.inr ⟨by rfl, rfl⟩) ?_
    try simp only [List.getElem_toArray, List.getElem_cons_zero, List.getElem_cons_succ, Act.put, List.setIfInBounds_toArray, List.set_cons_zero, List.set_cons_succ]
    refine wpAny_take (i := 4) (v := undef) rfl (by kernel_rfl) (by kernel_rfl) (by kernel_rfl) (fun _ _ _ h => h) (Or.inr ⟨by rfl, rfl⟩) ?_
    try simp only [List.getElem_toArray, List.getElem_cons_zero, List.getElem_cons_succ, Act.put, List.setIfInBounds_toArray, List.set_cons_zero, List.set_cons_succ]
    refine wpAny_take (i := 5) (v := undef) rfl (by kernel_rfl) (by kernel_rfl) (by kernel_rfl) (fun _ _ _ h => h) (Or.inr ⟨by rfl, rfl⟩) ?_
    try simp only [List.getElem_toArray, List.getElem_cons_zero, List.getElem_cons_succ, Act.put, List.setIfInBounds_toArray, List.set_cons_zero, List.set_cons_succ]
    refine wpAny_take (i := 6) (v := undef) rfl (by kernel_rfl) (by kernel_rfl) (by kernel_rfl) (fun _ _ _ h => h) (Or.inr ⟨by rfl, rfl⟩) ?_
    try simp only [List.getElem_toArray, List.getElem_cons_zero, List.getElem_cons_succ, Act.put, List.setIfInBounds_toArray, List.set_cons_zero, List.set_cons_succ]
    refine wpAny_take (i := 7) (v := undef) rfl (by kernel_rfl) (by kernel_rfl) (by kernel_rfl) (fun _ _ _ h => h) (Or.inr ⟨by rfl, rfl⟩) ?_
    try simp only [List.getElem_toArray, List.getElem_cons_zero, List.getElem_cons_succ, Act.put, List.setIfInBounds_toArray, List.set_cons_zero, List.set_cons_succ]
    refine wpAny_take (i := 8) (v := undef) rfl (by kernel_rfl) (by kernel_rfl) (by kernel_rfl) (fun _ _ _ h => h) (Or.inr ⟨by rfl, rfl⟩) ?_
    try simp only [List.getElem_toArray, List.getElem_cons_zero, List.getElem_cons_succ, Act.put, List.setIfInBounds_toArray, List.set_cons_zero, List.set_cons_succ]
    refine wpAny_take (i := 9) (v := undef) rfl (by kernel_rfl) (by kernel_rfl) (by kernel_rfl) (fun _ _ _ h => h) (Or.inr ⟨by rfl, rfl⟩) ?_
    try simp only [List.getElem_toArray, List.getElem_cons_zero, List.getElem_cons_succ, Act.put, List.setIfInBounds_toArray, List.set_cons_zero, List.set_cons_succ]
    refine wpAny_take (i := 10) (v := undef) rfl (by kernel_rfl) (by kernel_rfl) (by kernel_rfl) (fun _ _ _ h => h) (Or.inr ⟨by rfl, rfl⟩) ?_
    try simp only [List.getElem_toArray, List.getElem_cons_zero, List.getElem_cons_succ, Act.put, List.setIfInBounds_toArray, List.set_cons_zero, List.set_cons_succ]
    refine wpAny_take (i := 11) (v := undef) rfl (by kernel_rfl) (by kernel_rfl) (by kernel_rfl) (fun _ _ _ h => h) (Or.inr ⟨by rfl, rfl⟩) ?_
    try simp only [List.getElem_toArray, List.getElem_cons_zero, List.getElem_cons_succ, Act.put, List.setIfInBounds_toArray, List.set_cons_zero, List.set_cons_succ]
    refine wpAny_take (i := 12) (v := undef) rfl (by kernel_rfl) (by kernel_rfl) (by kernel_rfl) (fun _ _ _ h => h) (Or.inr ⟨by rfl, rfl⟩) ?_
    try simp only [List.getElem_toArray, List.getElem_cons_zero, List.getElem_cons_succ, Act.put, List.setIfInBounds_toArray, List.set_cons_zero, List.set_cons_succ]
    refine wpAny_take (i := 13) (v := undef) rfl (by kernel_rfl) (by kernel_rfl) (by kernel_rfl) (fun _ _ _ h => h) (Or.inr ⟨by rfl, rfl⟩) ?_
    try simp only [List.getElem_toArray, List.getElem_cons_zero, List.getElem_cons_succ, Act.put, List.setIfInBounds_toArray, List.set_cons_zero, List.set_cons_succ]
    refine wpAny_take (i := 14) (v := undef) rfl (by kernel_rfl) (by kernel_rfl) (by kernel_rfl) (fun _ _ _ h => h) (Or.inr ⟨by rfl, rfl⟩) ?_
    try simp only [List.getElem_toArray, List.getElem_cons_zero, List.getElem_cons_succ, Act.put, List.setIfInBounds_toArray, List.set_cons_zero, List.set_cons_succ]
    refine wpAny_take (i := 15) (v := undef) rfl (by kernel_rfl) (by kernel_rfl) (by kernel_rfl) (fun _ _ _ h => h) (Or.inr ⟨by rfl, rfl⟩) ?_
    try simp only [List.getElem_toArray, List.getElem_cons_zero, List.getElem_cons_succ, Act.put, List.setIfInBounds_toArray, List.set_cons_zero, List.set_cons_succ]
    refine wpAny_take (i := 16) (v := undef) rfl (by kernel_rfl) (by kernel_rfl) (by kernel_rfl) (fun _ _ _ h => h) (Or.inr ⟨by rfl, rfl⟩) ?_
    try simp only [List.getElem_toArray, List.getElem_cons_zero, List.getElem_cons_succ, Act.put, List.setIfInBounds_toArray, List.set_cons_zero, List.set_cons_succ]
    refine wpAny_take (i := 17) (v := .bool true) rfl (by kernel_rfl) (by kernel_rfl) (by kernel_rfl) (fun _ _ _ h => h) (Or.inl ⟨by rfl, fun w => by rfl⟩) ?_
    try simp only [List.getElem_toArray, List.getElem_cons_zero, List.getElem_cons_succ, Act.put, List.setIfInBounds_toArray, List.set_cons_zero, List.set_cons_succ]
    refine wpAny_take (i := 18) (v := .bool true) rfl (by kernel_rfl) (by kernel_rfl) (by kernel_rfl) (fun _ _ _ h => h) (Or.inl ⟨by rfl, fun w => by rfl⟩) ?_
    try simp only [List.getElem_toArray, List.getElem_cons_zero, List.getElem_cons_succ, Act.put, List.setIfInBounds_toArray, List.set_cons_zero, List.set_cons_succ]
    refine wpAny_done (by kernel_rfl) ?_ _
    refine NoPanic.normal ?_
    go_wp2
    go_ret
    exact ⟨rfl, by rw [hbc]; exact HB3.out.drewN 1⟩
end Go.Proofs.Ytholhpkjcomboaa
