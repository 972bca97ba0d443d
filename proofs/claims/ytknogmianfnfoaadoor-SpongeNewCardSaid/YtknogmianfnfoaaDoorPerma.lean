/- Layer 13: the program's rounds. -/
import Derived.Test.YtknogmianfnfoaaDoorPermm
import Derived.ScopeJumps
namespace Go.Proofs.YtknogmianfnfoaaDoor.L64
open Go.RowKit Rw
set_option linter.unusedVariables false
set_option linter.unusedSimpArgs false
set_option maxRecDepth 100000 in
set_option maxHeartbeats 1000000 in
theorem round13_any (f : Nat → Nat) (hf : ∀ i, f i < 18446744073709551616) (r : Int) (w : World) (ht : OTab w) : Calls Tryd.prog 40 #[.agg (uTab 25 f), .int .i64 r] w fun e w' => e = .returned (.agg (uTab 25 (kRound f r))) ∧ Below w.heap.size w w' := by
  have l1 := thetaN_lt hf
  have l2 := rhoN_lt l1
  have l3 := piN_lt l2
  have l4 := chiN_lt l3
  have hl2 := load2u w f 29
  go_enter Tryd.func40, Tryd.ntmps40
  go_wp2_with fail
  refine (theta_any f hf _).mono ?_
  rintro e w1 ⟨rfl, hb1⟩
  have hB1 : Below w.heap.size w w1 := ((((Below.refl _ w).alloc (Nat.le_refl _) _).alloc (by simp) _).trans (hb1.mono (by simp; omega)))
  have hR1 : Hold w1 (w.heap.size + 1) 25 (uTab 25 fun _ => 0) := (Hold.new1 w _ (uTab 25 fun _ => 0) 29 25 (uTab_size _ _)).call hb1
  clear hb1 hl2
  go_wp2_with fail
  refine (rho_any (thetaN f) l1 _ (ht.below hB1 (Nat.le_refl _))).mono ?_
  rintro e w2 ⟨rfl, hb2⟩
  have hB2 := hB1.trans (hb2.mono hB1.size)
  have hR2 := hR1.call hb2
  clear hb2 hB1 hR1
  go_wp2_with fail
  refine (pi_any (rhoN (thetaN f)) _).mono ?_
  rintro e w3 ⟨rfl, hb3⟩
  have hB3 := hB2.trans (hb3.mono hB2.size)
  have hR3 := hR2.call hb3
  clear hb3 hB2 hR2
  go_wp2_with fail
  refine (chi_any (piN (rhoN (thetaN f))) l3 _).mono ?_
  rintro e w4 ⟨rfl, hb4⟩
  have hB4 := hB3.trans (hb4.mono hB3.size)
  have hR4 := hR3.call hb4
  clear hb4 hB3 hR3
  go_wp2_with fail
  refine (iota_any (chiN (piN (rhoN (thetaN f)))) l4 r _).mono ?_
  rintro e w5 ⟨rfl, hb5⟩
  have hB5 := hB4.trans (hb5.mono hB4.size)
  have hR5 := hR4.call hb5
  clear hb5 hB4 hR4
  have q1 := hR5.ok
  go_wp2_with fail
  refine row_ret (P := Tryd.prog) (n := w.heap.size + 1) (p := 4) (k := 25) (c := uTab 25 (kRound f r)) rfl rfl (hR5.set _ (uTab_size _ _)).ok (hR5.set _ (uTab_size _ _)).at' Tryd.underlying29 rfl (by kernel_rfl) rfl ⟨rfl, below_setRow hB5 (by omega) _⟩
set_option maxHeartbeats 1000000 in
theorem held_any (x : Int) (h0 : -9223372036854775808 ≤ x) (h1 : x ≤ 9223372036854775807) (w : World) : Calls Tryd.prog 39 #[.int .i64 x] w fun e w' => e = .returned (.int .i64 (held x : Nat)) ∧ w = w' := by
  have e : (held x : Int) = min (max x 0) 24 := by unfold held; omega
  rw [e]
  go_enter Tryd.func39, Tryd.ntmps39
  go_wp2
  all_goals
    go_ret
    exact ⟨ret_int (by omega), rfl⟩
/-- A scope in which the run jumps back to one label: what is walked ahead of the label, then one pass. -/
theorem wp_scope_jumps2 {P : Program} {a : Act} {w : World} {Q : Exit → Act → World → Prop} {c rest : Code} (l : Nat) (J : Act → World → Prop) (μ : Act → World → Nat) (hf : findLabel c l = some (Code.seq Code.skip rest))
    (first : (∀ a w, J a w → rest.wp P (Exit.jump l J Q) a w) → c.wp P (Exit.jump l J Q) a w)
    (pass : ∀ a w, J a w → rest.wp P (Exit.jump l (fun a' w' => J a' w' ∧ μ a' w' < μ a w) Q) a w) : (Code.scope c).wp P Q a w :=
  wp_scope_jumps l J μ hf (first fun a w h => wp_mono (pass a w h) fun e a' w' h' => by
    cases e with
    | goto l' => exact ⟨h'.1, h'.2.1⟩
    | normal => exact h'
    | exit id => exact h'
    | ret => exact h'
    | panic ch => exact h'
    | outgrown => exact h') fun a w h => wp_seq (wp_skip (pass a w h))
/-- The two rows of a call that turns a state. -/
structure PS (w W : World) (u : Array Value) : Prop where
  below : Below w.heap.size w W
  a : Hold W w.heap.size 25 u
  r : Hold W (w.heap.size + 1) 25 (uTab 25 fun _ => 0)
theorem PS.call {w W W' : World} {u : Array Value} (h : PS w W u) (hb : Below W.heap.size W W') : PS w W' u := ⟨h.below.trans (hb.mono h.below.size), h.a.call hb, h.r.call hb⟩
theorem PS.drew {w W : World} {u : Array Value} (h : PS w W u) : PS w W.drew u := h.call ((Below.refl _ _).drewN 1)
theorem PS.setA {w W : World} {u : Array Value} (h : PS w W u) (u' : Array Value) (hu : u'.size = 25) : PS w (W.setRow w.heap.size u') u' := ⟨below_setRow h.below (by omega) _, h.a.set _ hu, h.r.other _ (by omega)⟩
set_option maxRecDepth 100000 in
set_option maxHeartbeats 1000000 in
theorem rounds13_any (f : Nat → Nat) (hf : ∀ i, f i < 18446744073709551616) (a b : Int) (ha0 : -9223372036854775808 ≤ a) (ha1 : a ≤ 9223372036854775807) (hb0 : -9223372036854775808 ≤ b) (hb1 : b ≤ 9223372036854775807) (w : World) (ht : OTab w) :
    Calls Tryd.prog 32 #[.agg (uTab 25 f), .int .i64 a, .int .i64 b] w fun e w' => e = .returned (.agg (uTab 25 (kIt f (held a) (held b - held a)))) ∧ Below w.heap.size w w' := by
  have C1 := Lib.hid (fun W => held_any a ha0 ha1 W)
  have C2 := Lib.hid (fun W => held_any b hb0 hb1 W)
  have hl1 := held_le a
  have hl2 := held_le b
  generalize held a = x at *
  generalize held b = y at *
  go_enter Tryd.func32, Tryd.ntmps32
  go_wp2_with fail
  obtain ⟨W0, hW0⟩ : ∃ W0, W0 = (w.alloc (.cells (uTab 25 f) 29)).alloc (.cells (uTab 25 fun _ => 0) 29) := ⟨_, rfl⟩
  have F0 : Hid (PS w W0 (uTab 25 (kIt f x 0))) := by
    rw [hW0]
    exact ⟨((Below.refl _ w).alloc (Nat.le_refl _) _).alloc (by simp) _, (Hold.new w _ _ 25 (uTab_size _ _)).past _, Hold.new1 w _ _ _ 25 (uTab_size _ _)⟩
  rw [← hW0]
  clear hW0
  refine wp_scope_jumps2 0 (fun a' w' => ∃ (n : Nat) (u13 u14 u15 u16 u17 u18 u19 u20 u21 : Value), n ≤ y - x ∧ Hid (PS w w' (uTab 25 (kIt f x n))) ∧
      a' = { tmps := #[.agg (uTab 25 f), .int .i64 a, .int .i64 b, .pointer (some { block := w.heap.size, off := 0 }), undef, undef, .pointer (some { block := w.heap.size + 1, off := 0 }), .int .i64 (x + n : Nat), .int .i64 (y : Nat), .int .i64 a, .int .i64 (x : Nat), .int .i64 b, .int .i64 (y : Nat), u13, u14, u15, u16, u17, u18, u19, u20, u21], defers := [] })
    (fun a' _ => (24 - intOf (a'.tmps.getD 7 undef)).toNat) rfl ?_ ?_
  · intro HJ
    go_wp2_with fail
    refine (C1.out _).mono ?_
    rintro e w5 ⟨rfl, rfl⟩
    go_wp2_with fail
    refine (C2.out _).mono ?_
    rintro e w6 ⟨rfl, rfl⟩
    go_wp2_with fail
    go_step3
    rename_i Q2 K hK
    exact hK _ _ (HJ _ _ ⟨0, _, _, _, _, _, _, _, _, _, Nat.zero_le _, F0, rfl⟩)
  · clear F0 C1 C2
    rintro a' w' ⟨n, u13, u14, u15, u16, u17, u18, u19, u20, u21, hn, HF, rfl⟩
    by_cases hlt : x + n < y
    · have hlt2 : ((x : Int) + (n : Int)) < (y : Int) := by omega
      have F1 := HF.out
      have hg := kIt_lt hf x n
      have C3 : Hid (∀ W, OTab W → Calls Tryd.prog 40 #[.agg (uTab 25 (kIt f x n)), .int .i64 ((x : Int) + (n : Int))] W fun e w' => e = .returned (.agg (uTab 25 (kIt f x (n + 1)))) ∧ Below W.heap.size W w') := fun W h => by
        have := round13_any (kIt f x n) hg (x + n : Nat) W h
        rwa [Int.natCast_add] at this
      have ht1 := ht.below F1.below (Nat.le_refl _)
      have q1 : (loadRow 29 (.pointer (some ⟨w.heap.size, 0, none⟩))).run Tryd.prog w' = .ok (.agg (uTab 25 (kIt f x n))) w' := F1.a.load Tryd.underlying29 rfl (by kernel_rfl)
      clear HF
      go_wp2_with fail
      refine (C3.out _ ht1).mono ?_
      rintro e w5 ⟨rfl, hb5⟩
      have F2 := F1.call hb5
      have q2 := F2.a.ok
      have R := Lib.hid (F2.setA (uTab 25 (kIt f x (n + 1))) (uTab_size _ _))
      clear F1 F2 hb5 q1 ht1
      go_wp2_with fail
      go_step3
      rw [show (x : Int) + (n : Int) + 1 = ((x + (n + 1) : Nat) : Int) by omega]
      refine ⟨rfl, ⟨n + 1, _, _, _, _, _, _, _, _, _, by omega, R, rfl⟩, ?_⟩
      · simp [intOf]
        omega
    · have hlt2 : ¬ ((x : Int) + (n : Int)) < (y : Int) := by omega
      obtain rfl : n = y - x := by omega
      have F1 := HF.out
      have q1 : (loadRow 29 (.pointer (some ⟨w.heap.size, 0, none⟩))).run Tryd.prog w' = .ok (.agg (uTab 25 (kIt f x (y - x)))) w' := F1.a.load Tryd.underlying29 rfl (by kernel_rfl)
      have q2 := F1.r.ok
      have R := Lib.hid F1
      clear F1 HF
      go_wp2_with fail
      simp only [Exit.jump]
      refine row_ret (P := Tryd.prog) (n := w.heap.size + 1) (p := 6) (k := 25) (c := uTab 25 (kIt f x (y - x))) rfl rfl (R.out.r.set _ (uTab_size _ _)).ok (R.out.r.set _ (uTab_size _ _)).at' Tryd.underlying29 rfl (by kernel_rfl) rfl ⟨rfl, below_setRow R.out.below (by omega) _⟩
set_option maxRecDepth 100000 in
set_option maxHeartbeats 1000000 in
theorem f13_any (f : Nat → Nat) (hf : ∀ i, f i < 18446744073709551616) (w : World) (ht : OTab w) : Calls Tryd.prog 28 #[.agg (uTab 25 f)] w fun e w' => e = .returned (.agg (uTab 25 (kIt f 0 24))) ∧ Below w.heap.size w w' := by
  have hl2 := load2u w f 29
  have C1 : Hid (∀ W, OTab W → Calls Tryd.prog 32 #[.agg (uTab 25 f), .int .i64 0, .int .i64 24] W fun e w' => e = .returned (.agg (uTab 25 (kIt f 0 24))) ∧ Below W.heap.size W w') := fun W h => rounds13_any f hf 0 24 (by omega) (by omega) (by omega) (by omega) W h
  go_enter Tryd.func28, Tryd.ntmps28
  go_wp2_with fail
  refine (C1.out _ (ht.below (((Below.refl _ w).alloc (Nat.le_refl _) _).alloc (by simp) _) (Nat.le_refl _))).mono ?_
  rintro e w1 ⟨rfl, hb1⟩
  have hB1 : Below w.heap.size w w1 := ((((Below.refl _ w).alloc (Nat.le_refl _) _).alloc (by simp) _).trans (hb1.mono (by simp; omega)))
  have hR1 : Hold w1 (w.heap.size + 1) 25 (uTab 25 fun _ => 0) := (Hold.new1 w _ (uTab 25 fun _ => 0) 29 25 (uTab_size _ _)).call hb1
  clear hb1 hl2
  have q1 := hR1.ok
  go_wp2_with fail
  refine row_ret (P := Tryd.prog) (n := w.heap.size + 1) (p := 2) (k := 25) (c := uTab 25 (kIt f 0 24)) rfl rfl (hR1.set _ (uTab_size _ _)).ok (hR1.set _ (uTab_size _ _)).at' Tryd.underlying29 rfl (by kernel_rfl) rfl ⟨rfl, below_setRow hB1 (by omega) _⟩
end Go.Proofs.YtknogmianfnfoaaDoor.L64
