/- Layer 21's statements: UnsnapBytes. -/
import Derived.Test.YtflgnhplbblokaaGreatDoorBnh
import Derived.Test.YtflgnhplbblokaaGreatDoorBni
namespace Go.Proofs.YtflgnhplbblokaaGreatDoor.Sn
open Go.RowKit Rw Cd Al Ln L64 Mk
set_option linter.unusedVariables false
set_option linter.unusedSimpArgs false
theorem GB.past {b : Nat} {xs : List Nat} {u : Array Value} {W : World} (h : GB b xs u W) (o : Obj) : GB b xs u (W.alloc o) := h.call ((Below.refl _ _).alloc (Nat.le_refl _) o)
theorem GP.past {b : Nat} {xs : List Nat} {u : Array Value} {W : World} (h : GP b xs u W) (o : Obj) : GP b xs u (W.alloc o) := h.call ((Below.refl _ _).alloc (Nat.le_refl _) o)
structure FH (w : World) (A : Option Addr) (xs : List Nat) (n1 n2 n3 n4 : Nat) (c1 c2 c3 c4 : Array Value) (W : World) : Prop where
  fo : FO w A xs W
  h1 : Hold W n1 13 c1
  h2 : Hold W n2 30 c2
  h3 : Hold W n3 13 c3
  h4 : Hold W n4 30 c4
  g1 : GB 0 xs c1 W
  g2 : GP 0 xs c2 W
  g3 : GB 0 xs c3 W
  g4 : GP 0 xs c4 W
theorem FH.call {w W W' : World} {A : Option Addr} {xs : List Nat} {n1 n2 n3 n4 : Nat} {c1 c2 c3 c4 : Array Value} (h : FH w A xs n1 n2 n3 n4 c1 c2 c3 c4 W) (hb : Below W.heap.size W W') : FH w A xs n1 n2 n3 n4 c1 c2 c3 c4 W' :=
  ⟨h.fo.call hb, h.h1.call hb, h.h2.call hb, h.h3.call hb, h.h4.call hb, h.g1.call hb, h.g2.call hb, h.g3.call hb, h.g4.call hb⟩
section
attribute [local go_sem ↓] loadB storeBU zeroBU loadSp storeSU zeroSU
set_option maxRecDepth 100000 in
set_option maxHeartbeats 2000000 in
theorem unsnapBytes_blk (A : Option Addr) (c : Nat) (xs : List Nat) (hl : xs.length ≤ 3000) (a : Nat) (w : World) (F : FO w A xs w)
    (HK : ∀ W, ATab W → Calls Tryz.prog 8 #[] W fun e w' => e = .returned (.bool true) ∧ Below W.heap.size W w')
    (D1 : ∀ W, FO w A xs W → Calls Tryz.prog 9 #[.slice A xs.length c] W fun e w' => ∃ u, e = .returned (.tuple #[.agg u, .int .i64 0]) ∧ GB 0 xs u w' ∧ Below W.heap.size W w')
    (D2 : ∀ W, FO w A xs W → Calls Tryz.prog 10 #[.slice A xs.length c] W fun e w' => ∃ u, e = .returned (.tuple #[.agg u, .int .i64 7]) ∧ GP 0 xs u w' ∧ Below W.heap.size W w')
    (R1 : ∀ W, FO w A xs W → Calls Tryz.prog 11 #[.slice A xs.length c] W fun e w' => ∃ u, e = .returned (.tuple #[.agg u, .bool true]) ∧ GB 0 xs u w' ∧ Below W.heap.size W w')
    (R2 : ∀ W, FO w A xs W → Calls Tryz.prog 12 #[.slice A xs.length c] W fun e w' => ∃ u, e = .returned (.tuple #[.agg u, .bool false]) ∧ GP 0 xs u w' ∧ Below W.heap.size W w')
    (D3 : ∀ W, FO w A xs W → Calls Tryz.prog 15 #[.slice A xs.length c] W fun e w' => e = .returned (.int .i64 (a : Nat)) ∧ Below W.heap.size W w')
    (R3 : ∀ W, FO w A xs W → Calls Tryz.prog 16 #[.slice A xs.length c] W fun e w' => e = .returned (.int .i64 (a : Nat)) ∧ W = w')
    (D4 : ∀ W, FO w A xs W → Calls Tryz.prog 17 #[.slice A xs.length c] W fun e w' => e = .returned (.bool true) ∧ Below W.heap.size W w')
    (S1 : ∀ W u v, GB 0 xs u W → GB 0 xs v W → Calls Tryz.prog 13 #[.agg u, .agg v] W fun e w' => e = .returned (.bool true) ∧ Below W.heap.size W w')
    (S2 : ∀ W u v, GP 0 xs u W → GP 0 xs v W → Calls Tryz.prog 14 #[.agg u, .agg v] W fun e w' => e = .returned (.bool true) ∧ Below W.heap.size W w')
    (K1 : ∀ W u, FO w A xs W → GB 0 xs u W → Calls Tryz.prog 18 #[.agg u] W fun e w' => ∃ A9 c9, e = .returned (.tuple #[.slice A9 xs.length c9, .int .i64 0]) ∧ Words .u8 w' A9 xs ∧ Below W.heap.size W w')
    (K2 : ∀ W A9 c9, FO w A xs W → Words .u8 W A9 xs → Calls Tryz.prog 19 #[.slice A9 xs.length c9, .slice A xs.length c] W fun e w' => e = .returned (.bool true) ∧ Below W.heap.size W w')
    : Calls Tryz.prog 3 #[.slice A xs.length c] w fun e w' => e = .returned (.bool true) ∧ Below w.heap.size w w' := by
  replace F := Lib.hid F
  replace HK := Lib.hid HK
  replace D1 := Lib.hid D1
  replace D2 := Lib.hid D2
  replace R1 := Lib.hid R1
  replace R2 := Lib.hid R2
  replace D3 := Lib.hid D3
  replace R3 := Lib.hid R3
  replace D4 := Lib.hid D4
  replace S1 := Lib.hid S1
  replace S2 := Lib.hid S2
  replace K1 := Lib.hid K1
  replace K2 := Lib.hid K2
  have hl3 : decide ((3000 : Int) < (xs.length : Int)) = false := decide_eq_false (by omega)
  go_enter Tryz.func3, Tryz.ntmps3
  go_wp2_with
    (first
    | (go_at_call 8
       (with_reducible refine (HK.out _ F.out.tab).mono ?_)
       rintro e u0 ⟨rfl, hb⟩
       replace F := Lib.hid (F.out.call hb)
       clear hb)
    | (go_at_call 9
       (with_reducible refine (D1.out _ F.out).mono ?_)
       rintro e u1 ⟨c1, rfl, g, hb⟩
       have s1 := run_storeBU (Hold.new u1 (blkV 0 (fun _ => 0) 0 0 (.slice none 0 0) false) 29 13 rfl).ok (c' := c1) g.ones.1 g.ones.2
       have H1 := Lib.hid (Hold.new u1 c1 29 13 g.ones.1)
       have G1 := Lib.hid (g.past (.cells c1 29))
       replace F := Lib.hid ((F.out.call hb).alloc (.cells c1 29))
       clear hb g)
    | (go_at_call 10
       (with_reducible refine (D2.out _ F.out).mono ?_)
       rintro e u2 ⟨c2, rfl, g, hb⟩
       have s2 := run_storeSU (Hold.new u2 (spV 0 (fun _ => 0) 0 false (.slice none 0 0) (.slice none 0 0)) 38 30 spV_size).ok (c' := c2) g.ones.1 g.ones.2
       replace H1 := Lib.hid ((H1.out.call hb).past (.cells c2 38))
       replace G1 := Lib.hid ((G1.out.call hb).past (.cells c2 38))
       have H2 := Lib.hid (Hold.new u2 c2 38 30 g.ones.1)
       have G2 := Lib.hid (g.past (.cells c2 38))
       replace F := Lib.hid ((F.out.call hb).alloc (.cells c2 38))
       clear hb g s1)
    | (go_at_call 11
       (with_reducible refine (R1.out _ F.out).mono ?_)
       rintro e u3 ⟨c3, rfl, g, hb⟩
       have s3 := run_storeBU (Hold.new u3 (blkV 0 (fun _ => 0) 0 0 (.slice none 0 0) false) 29 13 rfl).ok (c' := c3) g.ones.1 g.ones.2
       replace H1 := Lib.hid ((H1.out.call hb).past (.cells c3 29))
       replace G1 := Lib.hid ((G1.out.call hb).past (.cells c3 29))
       replace H2 := Lib.hid ((H2.out.call hb).past (.cells c3 29))
       replace G2 := Lib.hid ((G2.out.call hb).past (.cells c3 29))
       have H3 := Lib.hid (Hold.new u3 c3 29 13 g.ones.1)
       have G3 := Lib.hid (g.past (.cells c3 29))
       replace F := Lib.hid ((F.out.call hb).alloc (.cells c3 29))
       clear hb g s2)
    | (go_at_call 12
       (with_reducible refine (R2.out _ F.out).mono ?_)
       rintro e u4 ⟨c4, rfl, g, hb⟩
       have s4 := run_storeSU (Hold.new u4 (spV 0 (fun _ => 0) 0 false (.slice none 0 0) (.slice none 0 0)) 38 30 spV_size).ok (c' := c4) g.ones.1 g.ones.2
       have B := Lib.hid (show FH w A xs u1.heap.size u2.heap.size u3.heap.size u4.heap.size c1 c2 c3 c4 (u4.alloc (.cells c4 38)) from
         ⟨(F.out.call hb).alloc (.cells c4 38), (H1.out.call hb).past _, (H2.out.call hb).past _, (H3.out.call hb).past _, Hold.new u4 c4 38 30 g.ones.1, (G1.out.call hb).past _, (G2.out.call hb).past _, (G3.out.call hb).past _, g.past _⟩)
       have q1 := B.out.h1.load (T := 29) Tryz.underlying29 rfl (by kernel_rfl)
       have q3 := B.out.h3.load (T := 29) Tryz.underlying29 rfl (by kernel_rfl)
       clear hb g s3 F H1 H2 H3 G1 G2 G3)
    | (go_at_call 13
       (with_reducible refine (S1.out _ _ _ B.out.g1 B.out.g3).mono ?_)
       rintro e u5 ⟨rfl, hb⟩
       replace B := Lib.hid (B.out.call hb)
       have q2 := B.out.h2.load (T := 38) Tryz.underlying38 rfl (by kernel_rfl)
       have q4 := B.out.h4.load (T := 38) Tryz.underlying38 rfl (by kernel_rfl)
       clear hb q1 q3)
    | (go_at_call 14
       (with_reducible refine (S2.out _ _ _ B.out.g2 B.out.g4).mono ?_)
       rintro e u6 ⟨rfl, hb⟩
       replace B := Lib.hid (B.out.call hb)
       clear hb q2 q4)
    | (go_at_call 15
       (with_reducible refine (D3.out _ B.out.fo).mono ?_)
       rintro e u7 ⟨rfl, hb⟩
       replace B := Lib.hid (B.out.call hb)
       clear hb)
    | (go_at_call 16
       (with_reducible refine (R3.out _ B.out.fo).mono ?_)
       rintro e u8 ⟨rfl, rfl⟩)
    | (go_at_call 17
       (with_reducible refine (D4.out _ B.out.fo).mono ?_)
       rintro e u9 ⟨rfl, hb⟩
       replace B := Lib.hid (B.out.call hb)
       have q1 := B.out.h1.load (T := 29) Tryz.underlying29 rfl (by kernel_rfl)
       clear hb)
    | (go_at_call 18
       (with_reducible refine (K1.out _ _ B.out.fo B.out.g1).mono ?_)
       rintro e u10 ⟨A9, c9, rfl, h9, hb⟩
       replace B := Lib.hid (B.out.call hb)
       clear hb q1)
    | (go_at_call 19
       (with_reducible refine (K2.out _ _ _ B.out.fo h9).mono ?_)
       rintro e u11 ⟨rfl, hb⟩
       replace B := Lib.hid (B.out.call hb)
       clear hb))
  go_ret
  exact ⟨rfl, B.out.fo.below⟩
set_option maxRecDepth 100000 in
set_option maxHeartbeats 2000000 in
theorem unsnapBytes_spg (A : Option Addr) (c : Nat) (xs : List Nat) (hl : xs.length ≤ 3000) (a : Nat) (w : World) (F : FO w A xs w)
    (HK : ∀ W, ATab W → Calls Tryz.prog 8 #[] W fun e w' => e = .returned (.bool true) ∧ Below W.heap.size W w')
    (D1 : ∀ W, FO w A xs W → Calls Tryz.prog 9 #[.slice A xs.length c] W fun e w' => ∃ u, e = .returned (.tuple #[.agg u, .int .i64 7]) ∧ GB 0 xs u w' ∧ Below W.heap.size W w')
    (D2 : ∀ W, FO w A xs W → Calls Tryz.prog 10 #[.slice A xs.length c] W fun e w' => ∃ u, e = .returned (.tuple #[.agg u, .int .i64 0]) ∧ GP 0 xs u w' ∧ Below W.heap.size W w')
    (R1 : ∀ W, FO w A xs W → Calls Tryz.prog 11 #[.slice A xs.length c] W fun e w' => ∃ u, e = .returned (.tuple #[.agg u, .bool false]) ∧ GB 0 xs u w' ∧ Below W.heap.size W w')
    (R2 : ∀ W, FO w A xs W → Calls Tryz.prog 12 #[.slice A xs.length c] W fun e w' => ∃ u, e = .returned (.tuple #[.agg u, .bool true]) ∧ GP 0 xs u w' ∧ Below W.heap.size W w')
    (D3 : ∀ W, FO w A xs W → Calls Tryz.prog 15 #[.slice A xs.length c] W fun e w' => e = .returned (.int .i64 (a : Nat)) ∧ Below W.heap.size W w')
    (R3 : ∀ W, FO w A xs W → Calls Tryz.prog 16 #[.slice A xs.length c] W fun e w' => e = .returned (.int .i64 (a : Nat)) ∧ W = w')
    (D4 : ∀ W, FO w A xs W → Calls Tryz.prog 17 #[.slice A xs.length c] W fun e w' => e = .returned (.bool true) ∧ Below W.heap.size W w')
    (S1 : ∀ W u v, GB 0 xs u W → GB 0 xs v W → Calls Tryz.prog 13 #[.agg u, .agg v] W fun e w' => e = .returned (.bool true) ∧ Below W.heap.size W w')
    (S2 : ∀ W u v, GP 0 xs u W → GP 0 xs v W → Calls Tryz.prog 14 #[.agg u, .agg v] W fun e w' => e = .returned (.bool true) ∧ Below W.heap.size W w')
    (K1 : ∀ W u, FO w A xs W → GP 0 xs u W → Calls Tryz.prog 20 #[.agg u] W fun e w' => ∃ A9 c9, e = .returned (.tuple #[.slice A9 xs.length c9, .int .i64 0]) ∧ Words .u8 w' A9 xs ∧ Below W.heap.size W w')
    (K2 : ∀ W A9 c9, FO w A xs W → Words .u8 W A9 xs → Calls Tryz.prog 19 #[.slice A9 xs.length c9, .slice A xs.length c] W fun e w' => e = .returned (.bool true) ∧ Below W.heap.size W w')
    : Calls Tryz.prog 3 #[.slice A xs.length c] w fun e w' => e = .returned (.bool true) ∧ Below w.heap.size w w' := by
  replace F := Lib.hid F
  replace HK := Lib.hid HK
  replace D1 := Lib.hid D1
  replace D2 := Lib.hid D2
  replace R1 := Lib.hid R1
  replace R2 := Lib.hid R2
  replace D3 := Lib.hid D3
  replace R3 := Lib.hid R3
  replace D4 := Lib.hid D4
  replace S1 := Lib.hid S1
  replace S2 := Lib.hid S2
  replace K1 := Lib.hid K1
  replace K2 := Lib.hid K2
  have hl3 : decide ((3000 : Int) < (xs.length : Int)) = false := decide_eq_false (by omega)
  go_enter Tryz.func3, Tryz.ntmps3
  go_wp2_with
    (first
    | (go_at_call 8
       (with_reducible refine (HK.out _ F.out.tab).mono ?_)
       rintro e u0 ⟨rfl, hb⟩
       replace F := Lib.hid (F.out.call hb)
       clear hb)
    | (go_at_call 9
       (with_reducible refine (D1.out _ F.out).mono ?_)
       rintro e u1 ⟨c1, rfl, g, hb⟩
       have s1 := run_storeBU (Hold.new u1 (blkV 0 (fun _ => 0) 0 0 (.slice none 0 0) false) 29 13 rfl).ok (c' := c1) g.ones.1 g.ones.2
       have H1 := Lib.hid (Hold.new u1 c1 29 13 g.ones.1)
       have G1 := Lib.hid (g.past (.cells c1 29))
       replace F := Lib.hid ((F.out.call hb).alloc (.cells c1 29))
       clear hb g)
    | (go_at_call 10
       (with_reducible refine (D2.out _ F.out).mono ?_)
       rintro e u2 ⟨c2, rfl, g, hb⟩
       have s2 := run_storeSU (Hold.new u2 (spV 0 (fun _ => 0) 0 false (.slice none 0 0) (.slice none 0 0)) 38 30 spV_size).ok (c' := c2) g.ones.1 g.ones.2
       replace H1 := Lib.hid ((H1.out.call hb).past (.cells c2 38))
       replace G1 := Lib.hid ((G1.out.call hb).past (.cells c2 38))
       have H2 := Lib.hid (Hold.new u2 c2 38 30 g.ones.1)
       have G2 := Lib.hid (g.past (.cells c2 38))
       replace F := Lib.hid ((F.out.call hb).alloc (.cells c2 38))
       clear hb g s1)
    | (go_at_call 11
       (with_reducible refine (R1.out _ F.out).mono ?_)
       rintro e u3 ⟨c3, rfl, g, hb⟩
       have s3 := run_storeBU (Hold.new u3 (blkV 0 (fun _ => 0) 0 0 (.slice none 0 0) false) 29 13 rfl).ok (c' := c3) g.ones.1 g.ones.2
       replace H1 := Lib.hid ((H1.out.call hb).past (.cells c3 29))
       replace G1 := Lib.hid ((G1.out.call hb).past (.cells c3 29))
       replace H2 := Lib.hid ((H2.out.call hb).past (.cells c3 29))
       replace G2 := Lib.hid ((G2.out.call hb).past (.cells c3 29))
       have H3 := Lib.hid (Hold.new u3 c3 29 13 g.ones.1)
       have G3 := Lib.hid (g.past (.cells c3 29))
       replace F := Lib.hid ((F.out.call hb).alloc (.cells c3 29))
       clear hb g s2)
    | (go_at_call 12
       (with_reducible refine (R2.out _ F.out).mono ?_)
       rintro e u4 ⟨c4, rfl, g, hb⟩
       have s4 := run_storeSU (Hold.new u4 (spV 0 (fun _ => 0) 0 false (.slice none 0 0) (.slice none 0 0)) 38 30 spV_size).ok (c' := c4) g.ones.1 g.ones.2
       have B := Lib.hid (show FH w A xs u1.heap.size u2.heap.size u3.heap.size u4.heap.size c1 c2 c3 c4 (u4.alloc (.cells c4 38)) from
         ⟨(F.out.call hb).alloc (.cells c4 38), (H1.out.call hb).past _, (H2.out.call hb).past _, (H3.out.call hb).past _, Hold.new u4 c4 38 30 g.ones.1, (G1.out.call hb).past _, (G2.out.call hb).past _, (G3.out.call hb).past _, g.past _⟩)
       have q1 := B.out.h1.load (T := 29) Tryz.underlying29 rfl (by kernel_rfl)
       have q3 := B.out.h3.load (T := 29) Tryz.underlying29 rfl (by kernel_rfl)
       clear hb g s3 F H1 H2 H3 G1 G2 G3)
    | (go_at_call 13
       (with_reducible refine (S1.out _ _ _ B.out.g1 B.out.g3).mono ?_)
       rintro e u5 ⟨rfl, hb⟩
       replace B := Lib.hid (B.out.call hb)
       have q2 := B.out.h2.load (T := 38) Tryz.underlying38 rfl (by kernel_rfl)
       have q4 := B.out.h4.load (T := 38) Tryz.underlying38 rfl (by kernel_rfl)
       clear hb q1 q3)
    | (go_at_call 14
       (with_reducible refine (S2.out _ _ _ B.out.g2 B.out.g4).mono ?_)
       rintro e u6 ⟨rfl, hb⟩
       replace B := Lib.hid (B.out.call hb)
       clear hb q2 q4)
    | (go_at_call 15
       (with_reducible refine (D3.out _ B.out.fo).mono ?_)
       rintro e u7 ⟨rfl, hb⟩
       replace B := Lib.hid (B.out.call hb)
       clear hb)
    | (go_at_call 16
       (with_reducible refine (R3.out _ B.out.fo).mono ?_)
       rintro e u8 ⟨rfl, rfl⟩)
    | (go_at_call 17
       (with_reducible refine (D4.out _ B.out.fo).mono ?_)
       rintro e u9 ⟨rfl, hb⟩
       replace B := Lib.hid (B.out.call hb)
       have q1 := B.out.h2.load (T := 38) Tryz.underlying38 rfl (by kernel_rfl)
       clear hb)
    | (go_at_call 20
       (with_reducible refine (K1.out _ _ B.out.fo B.out.g2).mono ?_)
       rintro e u10 ⟨A9, c9, rfl, h9, hb⟩
       replace B := Lib.hid (B.out.call hb)
       clear hb q1)
    | (go_at_call 19
       (with_reducible refine (K2.out _ _ _ B.out.fo h9).mono ?_)
       rintro e u11 ⟨rfl, hb⟩
       replace B := Lib.hid (B.out.call hb)
       clear hb))
  go_ret
  exact ⟨rfl, B.out.fo.below⟩
set_option maxRecDepth 100000 in
set_option maxHeartbeats 2000000 in
theorem unsnapBytes_none (A : Option Addr) (c : Nat) (xs : List Nat) (hl : xs.length ≤ 3000) (a : Nat) (w : World) (F : FO w A xs w)
    (HK : ∀ W, ATab W → Calls Tryz.prog 8 #[] W fun e w' => e = .returned (.bool true) ∧ Below W.heap.size W w')
    (D1 : ∀ W, FO w A xs W → Calls Tryz.prog 9 #[.slice A xs.length c] W fun e w' => ∃ u, e = .returned (.tuple #[.agg u, .int .i64 7]) ∧ GB 0 xs u w' ∧ Below W.heap.size W w')
    (D2 : ∀ W, FO w A xs W → Calls Tryz.prog 10 #[.slice A xs.length c] W fun e w' => ∃ u, e = .returned (.tuple #[.agg u, .int .i64 7]) ∧ GP 0 xs u w' ∧ Below W.heap.size W w')
    (R1 : ∀ W, FO w A xs W → Calls Tryz.prog 11 #[.slice A xs.length c] W fun e w' => ∃ u, e = .returned (.tuple #[.agg u, .bool false]) ∧ GB 0 xs u w' ∧ Below W.heap.size W w')
    (R2 : ∀ W, FO w A xs W → Calls Tryz.prog 12 #[.slice A xs.length c] W fun e w' => ∃ u, e = .returned (.tuple #[.agg u, .bool false]) ∧ GP 0 xs u w' ∧ Below W.heap.size W w')
    (D3 : ∀ W, FO w A xs W → Calls Tryz.prog 15 #[.slice A xs.length c] W fun e w' => e = .returned (.int .i64 (a : Nat)) ∧ Below W.heap.size W w')
    (R3 : ∀ W, FO w A xs W → Calls Tryz.prog 16 #[.slice A xs.length c] W fun e w' => e = .returned (.int .i64 (a : Nat)) ∧ W = w')
    (D4 : ∀ W, FO w A xs W → Calls Tryz.prog 17 #[.slice A xs.length c] W fun e w' => e = .returned (.bool false) ∧ Below W.heap.size W w')
    (S1 : ∀ W u v, GB 0 xs u W → GB 0 xs v W → Calls Tryz.prog 13 #[.agg u, .agg v] W fun e w' => e = .returned (.bool true) ∧ Below W.heap.size W w')
    (S2 : ∀ W u v, GP 0 xs u W → GP 0 xs v W → Calls Tryz.prog 14 #[.agg u, .agg v] W fun e w' => e = .returned (.bool true) ∧ Below W.heap.size W w')
    : Calls Tryz.prog 3 #[.slice A xs.length c] w fun e w' => e = .returned (.bool true) ∧ Below w.heap.size w w' := by
  replace F := Lib.hid F
  replace HK := Lib.hid HK
  replace D1 := Lib.hid D1
  replace D2 := Lib.hid D2
  replace R1 := Lib.hid R1
  replace R2 := Lib.hid R2
  replace D3 := Lib.hid D3
  replace R3 := Lib.hid R3
  replace D4 := Lib.hid D4
  replace S1 := Lib.hid S1
  replace S2 := Lib.hid S2
  have hl3 : decide ((3000 : Int) < (xs.length : Int)) = false := decide_eq_false (by omega)
  go_enter Tryz.func3, Tryz.ntmps3
  go_wp2_with
    (first
    | (go_at_call 8
       (with_reducible refine (HK.out _ F.out.tab).mono ?_)
       rintro e u0 ⟨rfl, hb⟩
       replace F := Lib.hid (F.out.call hb)
       clear hb)
    | (go_at_call 9
       (with_reducible refine (D1.out _ F.out).mono ?_)
       rintro e u1 ⟨c1, rfl, g, hb⟩
       have s1 := run_storeBU (Hold.new u1 (blkV 0 (fun _ => 0) 0 0 (.slice none 0 0) false) 29 13 rfl).ok (c' := c1) g.ones.1 g.ones.2
       have H1 := Lib.hid (Hold.new u1 c1 29 13 g.ones.1)
       have G1 := Lib.hid (g.past (.cells c1 29))
       replace F := Lib.hid ((F.out.call hb).alloc (.cells c1 29))
       clear hb g)
    | (go_at_call 10
       (with_reducible refine (D2.out _ F.out).mono ?_)
       rintro e u2 ⟨c2, rfl, g, hb⟩
       have s2 := run_storeSU (Hold.new u2 (spV 0 (fun _ => 0) 0 false (.slice none 0 0) (.slice none 0 0)) 38 30 spV_size).ok (c' := c2) g.ones.1 g.ones.2
       replace H1 := Lib.hid ((H1.out.call hb).past (.cells c2 38))
       replace G1 := Lib.hid ((G1.out.call hb).past (.cells c2 38))
       have H2 := Lib.hid (Hold.new u2 c2 38 30 g.ones.1)
       have G2 := Lib.hid (g.past (.cells c2 38))
       replace F := Lib.hid ((F.out.call hb).alloc (.cells c2 38))
       clear hb g s1)
    | (go_at_call 11
       (with_reducible refine (R1.out _ F.out).mono ?_)
       rintro e u3 ⟨c3, rfl, g, hb⟩
       have s3 := run_storeBU (Hold.new u3 (blkV 0 (fun _ => 0) 0 0 (.slice none 0 0) false) 29 13 rfl).ok (c' := c3) g.ones.1 g.ones.2
       replace H1 := Lib.hid ((H1.out.call hb).past (.cells c3 29))
       replace G1 := Lib.hid ((G1.out.call hb).past (.cells c3 29))
       replace H2 := Lib.hid ((H2.out.call hb).past (.cells c3 29))
       replace G2 := Lib.hid ((G2.out.call hb).past (.cells c3 29))
       have H3 := Lib.hid (Hold.new u3 c3 29 13 g.ones.1)
       have G3 := Lib.hid (g.past (.cells c3 29))
       replace F := Lib.hid ((F.out.call hb).alloc (.cells c3 29))
       clear hb g s2)
    | (go_at_call 12
       (with_reducible refine (R2.out _ F.out).mono ?_)
       rintro e u4 ⟨c4, rfl, g, hb⟩
       have s4 := run_storeSU (Hold.new u4 (spV 0 (fun _ => 0) 0 false (.slice none 0 0) (.slice none 0 0)) 38 30 spV_size).ok (c' := c4) g.ones.1 g.ones.2
       have B := Lib.hid (show FH w A xs u1.heap.size u2.heap.size u3.heap.size u4.heap.size c1 c2 c3 c4 (u4.alloc (.cells c4 38)) from
         ⟨(F.out.call hb).alloc (.cells c4 38), (H1.out.call hb).past _, (H2.out.call hb).past _, (H3.out.call hb).past _, Hold.new u4 c4 38 30 g.ones.1, (G1.out.call hb).past _, (G2.out.call hb).past _, (G3.out.call hb).past _, g.past _⟩)
       have q1 := B.out.h1.load (T := 29) Tryz.underlying29 rfl (by kernel_rfl)
       have q3 := B.out.h3.load (T := 29) Tryz.underlying29 rfl (by kernel_rfl)
       clear hb g s3 F H1 H2 H3 G1 G2 G3)
    | (go_at_call 13
       (with_reducible refine (S1.out _ _ _ B.out.g1 B.out.g3).mono ?_)
       rintro e u5 ⟨rfl, hb⟩
       replace B := Lib.hid (B.out.call hb)
       have q2 := B.out.h2.load (T := 38) Tryz.underlying38 rfl (by kernel_rfl)
       have q4 := B.out.h4.load (T := 38) Tryz.underlying38 rfl (by kernel_rfl)
       clear hb q1 q3)
    | (go_at_call 14
       (with_reducible refine (S2.out _ _ _ B.out.g2 B.out.g4).mono ?_)
       rintro e u6 ⟨rfl, hb⟩
       replace B := Lib.hid (B.out.call hb)
       clear hb q2 q4)
    | (go_at_call 15
       (with_reducible refine (D3.out _ B.out.fo).mono ?_)
       rintro e u7 ⟨rfl, hb⟩
       replace B := Lib.hid (B.out.call hb)
       clear hb)
    | (go_at_call 16
       (with_reducible refine (R3.out _ B.out.fo).mono ?_)
       rintro e u8 ⟨rfl, rfl⟩)
    | (go_at_call 17
       (with_reducible refine (D4.out _ B.out.fo).mono ?_)
       rintro e u9 ⟨rfl, hb⟩
       replace B := Lib.hid (B.out.call hb)
       clear hb))
  go_ret
  exact ⟨rfl, B.out.fo.below⟩
end
theorem same11_self (a : Int) (h : Nat → Nat) (hi lo : Nat) (xs : List Nat) (fl : Bool) : same11 a a h h hi lo hi lo xs xs fl fl = true := by
  unfold same11
  rw [(eqN_iff 8 h h).2 fun _ _ => rfl]
  unfold eqC sameB
  simp
theorem same20_self (a : Int) (f : Nat → Nat) (p : Int) (rd : Bool) (x1 x2 : List Nat) : same20 a a f f p p rd rd x1 x2 x1 x2 = true := by
  unfold same20
  rw [(eqN_iff 25 f f).2 fun _ _ => rfl]
  unfold sameB
  simp
theorem unsnapBytes_walk (w : World) (hT : ATab w) (A : Option Addr) (c : Nat) (xs : List Nat) (hx : AllLt 256 xs) (hlc : xs.length ≤ c) (hcm : c ≤ maxLen) (hw : Words .u8 w A xs) :
    Calls Tryz.prog 3 #[.slice A xs.length c] w fun e w' => e = .returned (.bool true) ∧ Below w.heap.size w w' := by
  have F : FO w A xs w := ⟨Below.refl _ _, hw, hT⟩
  have HK := fun W hW => wakes21_any W hW
  by_cases hl : xs.length ≤ 3000
  · have D1 : ∀ W, FO w A xs W → Calls Tryz.prog 9 #[.slice A xs.length c] W fun e w' => ∃ u, e = .returned (.tuple #[.agg u, .int .i64 (erB xs)]) ∧ GB 0 xs u w' ∧ Below W.heap.size W w' := fun W hW =>
      (blockU_any A c xs hx hlc hcm W hW.tab hW.words).mono fun e w' k => by
        obtain ⟨u, h1, h2, h3⟩ := k
        exact ⟨u, h1, h2.low (Nat.zero_le _), h3⟩
    have D2 : ∀ W, FO w A xs W → Calls Tryz.prog 10 #[.slice A xs.length c] W fun e w' => ∃ u, e = .returned (.tuple #[.agg u, .int .i64 (erP xs)]) ∧ GP 0 xs u w' ∧ Below W.heap.size W w' := fun W hW =>
      (spongeU_any A c xs hx hlc hcm (by omega) W hW.tab hW.words).mono fun e w' k => by
        obtain ⟨u, h1, h2, h3⟩ := k
        exact ⟨u, h1, h2.low (Nat.zero_le _), h3⟩
    have R1 := fun W (hW : FO w A xs W) => Sn.refBlock_any A c xs hx hlc hcm W hW.words
    have R2 := fun W (hW : FO w A xs W) => Sn.refSponge_any A c xs hx hlc hcm (by omega) W hW.words
    have D3 := fun W (hW : FO w A xs W) => alg_any A c xs hx hlc W hW.tab hW.words
    have R3 := fun W (hW : FO w A xs W) => refAlg_any A c xs hx W hW.words
    have D4 := fun W (hW : FO w A xs W) => isU_any A c xs hx hlc hcm (by omega) W hW.tab hW.words
    have S1 : ∀ W u v, GB 0 xs u W → GB 0 xs v W → Calls Tryz.prog 13 #[.agg u, .agg v] W fun e w' => e = .returned (.bool true) ∧ Below W.heap.size W w' := fun W u v hu hv => by
      obtain ⟨B, d, rfl, p1, -⟩ := hu
      obtain ⟨C, g, rfl, p2, -⟩ := hv
      have := refSame11_any (uA xs : Nat) (uA xs : Nat) (uH xs) (uH xs) (uHi xs) (uLo xs) (uHi xs) (uLo xs) B d (uR xs) C g (uR xs) (uFl xs) (uFl xs) W (uR_lt hx) (uR_lt hx) (by have := uR_le xs; omega) (by have := uR_le xs; omega) p1 p2
      rw [same11_self] at this
      exact this
    have S2 : ∀ W u v, GP 0 xs u W → GP 0 xs v W → Calls Tryz.prog 14 #[.agg u, .agg v] W fun e w' => e = .returned (.bool true) ∧ Below W.heap.size W w' := fun W u v hu hv => by
      obtain ⟨B1, d1, B2, d2, rfl, p1, p2, -⟩ := hu
      obtain ⟨C1, g1, C2, g2, rfl, p3, p4, -⟩ := hv
      have l1 := v1_le xs
      have l2 := v2_le xs
      have := refSame20_any (vA xs : Nat) (vA xs : Nat) (vF xs) (vF xs) (vAt xs : Nat) (vAt xs : Nat) (vFl xs) (vFl xs) B1 d1 (v1 xs) B2 d2 (v2 xs) C1 g1 (v1 xs) C2 g2 (v2 xs) W (v1_lt hx) (v2_lt hx) (v1_lt hx) (v2_lt hx) (by omega) (by omega) (by omega) (by omega) p1 p2 p3 p4
      rw [same20_self] at this
      exact this
    have K2 : ∀ W A9 c9, FO w A xs W → Words .u8 W A9 xs → Calls Tryz.prog 19 #[.slice A9 xs.length c9, .slice A xs.length c] W fun e w' => e = .returned (.bool true) ∧ Below W.heap.size W w' := fun W A9 c9 hW h9 => by
      have := Cd.same_any xs xs hx hx (by omega) (by omega) W A9 c9 A c h9 hW.words
      rw [sameB_self] at this
      exact this
    cases hB : isB xs with
    | true =>
      have hP := not_both hB
      rw [erB_yes hB] at D1
      rw [erP_no hP] at D2
      simp only [isU, hB, hP] at R1 R2 D4
      exact unsnapBytes_blk A c xs hl (algU xs) w F HK D1 D2 R1 R2 D3 R3 D4 S1 S2 (fun W u hW hu => by
        obtain ⟨B, d, rfl, p1, -⟩ := hu
        have := snapBlock_yes (uA xs) (uH xs) (uH_lt hx) (uHi xs) (uLo xs) (uHi_lt hx) (uLo_lt hx) B d (uR xs) (uFl xs) W (right_u hB) hW.tab p1
        rw [same_u hB] at this
        exact this.mono fun e w' q => by
          obtain ⟨A9, c9, rfl, -, q2, q3⟩ := q
          exact ⟨A9, c9, rfl, q2, q3⟩) K2
    | false =>
      rw [erB_no hB] at D1
      cases hP : isP xs with
      | true =>
        rw [erP_yes hP] at D2
        simp only [isU, hB, hP] at R1 R2 D4
        exact unsnapBytes_spg A c xs hl (algU xs) w F HK D1 D2 R1 R2 D3 R3 D4 S1 S2 (fun W u hW hu => by
          obtain ⟨B1, d1, B2, d2, rfl, p1, p2, -⟩ := hu
          have := snapSponge_yes (vA xs) (vF xs) (vF_lt hx) (vAt xs) (vFl xs) B1 d1 (v1 xs) B2 d2 (v2 xs) (v1_lt hx) (v2_lt hx) W hW.tab p1 p2 (right_v hP)
          rw [same_v hP] at this
          exact this.mono fun e w' q => by
            obtain ⟨A9, c9, rfl, -, q2, q3⟩ := q
            exact ⟨A9, c9, rfl, q2, q3⟩) K2
      | false =>
        rw [erP_no hP] at D2
        simp only [isU, hB, hP] at R1 R2 D4
        exact unsnapBytes_none A c xs hl (algU xs) w F HK D1 D2 R1 R2 D3 R3 D4 S1 S2
  · have hl3 : decide ((3000 : Int) < (xs.length : Int)) = true := decide_eq_true (by omega)
    replace F := Lib.hid F
    replace HK := Lib.hid HK
    clear hx hw hT
    go_enter Tryz.func3, Tryz.ntmps3
    go_wp2_with (go_at_call 8; (with_reducible refine (HK.out _ F.out.tab).mono ?_); rintro e u0 ⟨rfl, hb⟩; replace F := Lib.hid (F.out.call hb); clear hb)
    go_ret
    exact ⟨rfl, F.out.below⟩
end Go.Proofs.YtflgnhplbblokaaGreatDoor.Sn
