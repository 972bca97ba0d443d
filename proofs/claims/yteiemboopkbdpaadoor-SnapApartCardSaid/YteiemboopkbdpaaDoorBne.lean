/- Layer 20: Right of a sponge's state: the program's and the document's. | Layer 14: the state as bytes: plain facts. No program is named here. | Layer 14: the program: how far a place lies in the state, its bytes, and back. | Layer 20: Sponge: the snapshot of a sponge's state, put together. | Layer 20: Sponge; Size. | Layer 20: Size. | Layer 20: the document's Right. | Layer 20: the document's own snapshot of a hash of blocks. | Layer 17: prefixes. | Layer 14: the document's own answers: a state as bytes, and back. | Layer 20: the document's own snapshot of a sponge. | Layer 20: the document's Size. | Layer 4: '==' of counts, boxes of structs behind calls. No law is named here. -/
import Derived.Test.YteiemboopkbdpaaDoorBnd
import Derived.Test.YteiemboopkbdpaaDoorBnc
import Derived.Test.YteiemboopkbdpaaDoorBnb
import Derived.Deep.RegionLaw
import Derived.WalkMore
import Derived.Deep.LoopGhost
import Derived.Deep.AppendLies
import Derived.Deep.RegionHeld3
section
namespace Go.Proofs.YteiemboopkbdpaaDoor.Sn
open Go.RowKit Rw Mk Cd L64 Al
set_option linter.unusedVariables false
set_option linter.unusedSimpArgs false
section
attribute [local go_sem ↓] loadSp
set_option maxRecDepth 20000 in
set_option maxHeartbeats 2000000 in
theorem rightS_core (alg p : Int) (rd : Bool) (u : Array Value) (A1 : Option Addr) (n1 c1 : Nat) (A2 : Option Addr) (n2 c2 : Nat) (b1 b2 b3 b4 : Bool) (w : World) (husz : u.size = 30)
    (k0 : u[0]? = some (.int .i64 alg)) (k27 : u[27]? = some (.bool rd)) (k28 : u[28]? = some (.slice A1 n1 c1)) (k29 : u[29]? = some (.slice A2 n2 c2))
    (C1 : ∀ W, Below w.heap.size w W → Calls Tryd.prog 33 #[.int .i64 alg] W fun e w' => e = .returned (.bool b1) ∧ Below W.heap.size W w')
    (C2 : ∀ W, Below w.heap.size w W → Calls Tryd.prog 34 #[.agg u] W fun e w' => e = .returned (.bool b2) ∧ Below W.heap.size W w')
    (C3 : ∀ W, Below w.heap.size w W → Calls Tryd.prog 35 #[.int .i64 alg] W fun e w' => e = .returned (.bool b3) ∧ Below W.heap.size W w')
    (C4 : ∀ W, Below w.heap.size w W → Calls Tryd.prog 31 #[.int .i64 alg, .agg #[.slice A1 n1 c1, .slice A2 n2 c2]] W fun e w' => e = .returned (.bool b4) ∧ Below W.heap.size W w') :
    Calls Tryd.prog 16 #[.agg u] w fun e w' => e = .returned (.bool (b1 && (b2 && ((!rd || b3) && b4)))) ∧ Below w.heap.size w w' := by
  have hb0 : Below w.heap.size w (w.alloc (.cells u 42)) := (Below.refl _ w).alloc (Nat.le_refl _) _
  have hh := Hold.new w u 42 30 husz
  have H0 := Lib.hid hh
  have HB := Lib.hid hb0
  have q0 : (w.alloc (.cells u 42)).cell? ⟨w.heap.size, 0, none⟩ = some (.int .i64 alg) := hh.cell k0
  have C1 := Lib.hid C1
  have C2 := Lib.hid C2
  have C3 := Lib.hid C3
  have C4 := Lib.hid C4
  have K0 := Lib.hid k0
  have K27 := Lib.hid k27
  have K28 := Lib.hid k28
  have K29 := Lib.hid k29
  clear hb0 hh husz k0 k27 k28 k29
  cases b1 with
  | false =>
    go_enter Tryd.func16, Tryd.ntmps16
    go_wp2_with (first
      | (go_at_call 33
         (with_reducible refine (C1.out _ HB.out).mono ?_)
         rintro e u1 ⟨rfl, hb⟩
         replace HB := Lib.hid (HB.out.trans (hb.mono HB.out.size))
         replace H0 := Lib.hid (H0.out.call hb)
         have p0 := H0.out.load (T := 42) Tryd.underlying42 rfl (by kernel_rfl)
         clear hb q0)
      | (go_at_call 34
         (with_reducible refine (C2.out _ HB.out).mono ?_)
         rintro e u2 ⟨rfl, hb⟩
         replace HB := Lib.hid (HB.out.trans (hb.mono HB.out.size))
         replace H0 := Lib.hid (H0.out.call hb)
         have p1 : u2.cell? ⟨w.heap.size, 27, none⟩ = some (.bool rd) := H0.out.cell K27.out
         have p2 : u2.cell? ⟨w.heap.size, 0, none⟩ = some (.int .i64 alg) := H0.out.cell K0.out
         have p3 : u2.cell? ⟨w.heap.size, 28, none⟩ = some (.slice A1 n1 c1) := H0.out.cell K28.out
         have p4 : u2.cell? ⟨w.heap.size, 29, none⟩ = some (.slice A2 n2 c2) := H0.out.cell K29.out
         clear hb p0)
      | (go_at_call 35
         (with_reducible refine (C3.out _ HB.out).mono ?_)
         rintro e u3 ⟨rfl, hb⟩
         replace HB := Lib.hid (HB.out.trans (hb.mono HB.out.size))
         replace H0 := Lib.hid (H0.out.call hb)
         have p5 : u3.cell? ⟨w.heap.size, 0, none⟩ = some (.int .i64 alg) := H0.out.cell K0.out
         have p6 : u3.cell? ⟨w.heap.size, 28, none⟩ = some (.slice A1 n1 c1) := H0.out.cell K28.out
         have p7 : u3.cell? ⟨w.heap.size, 29, none⟩ = some (.slice A2 n2 c2) := H0.out.cell K29.out
         clear hb p1 p2 p3 p4)
      | (go_at_call 31
         (with_reducible refine (C4.out _ HB.out).mono ?_)
         rintro e u4 ⟨rfl, hb⟩
         replace HB := Lib.hid (HB.out.trans (hb.mono HB.out.size))
         clear hb))
    go_ret
    exact ⟨rfl, HB.out⟩
  | true =>
    cases b2 with
    | false =>
      go_enter Tryd.func16, Tryd.ntmps16
      go_wp2_with (first
        | (go_at_call 33
           (with_reducible refine (C1.out _ HB.out).mono ?_)
           rintro e u1 ⟨rfl, hb⟩
           replace HB := Lib.hid (HB.out.trans (hb.mono HB.out.size))
           replace H0 := Lib.hid (H0.out.call hb)
           have p0 := H0.out.load (T := 42) Tryd.underlying42 rfl (by kernel_rfl)
           clear hb q0)
        | (go_at_call 34
           (with_reducible refine (C2.out _ HB.out).mono ?_)
           rintro e u2 ⟨rfl, hb⟩
           replace HB := Lib.hid (HB.out.trans (hb.mono HB.out.size))
           replace H0 := Lib.hid (H0.out.call hb)
           have p1 : u2.cell? ⟨w.heap.size, 27, none⟩ = some (.bool rd) := H0.out.cell K27.out
           have p2 : u2.cell? ⟨w.heap.size, 0, none⟩ = some (.int .i64 alg) := H0.out.cell K0.out
           have p3 : u2.cell? ⟨w.heap.size, 28, none⟩ = some (.slice A1 n1 c1) := H0.out.cell K28.out
           have p4 : u2.cell? ⟨w.heap.size, 29, none⟩ = some (.slice A2 n2 c2) := H0.out.cell K29.out
           clear hb p0)
        | (go_at_call 35
           (with_reducible refine (C3.out _ HB.out).mono ?_)
           rintro e u3 ⟨rfl, hb⟩
           replace HB := Lib.hid (HB.out.trans (hb.mono HB.out.size))
           replace H0 := Lib.hid (H0.out.call hb)
           have p5 : u3.cell? ⟨w.heap.size, 0, none⟩ = some (.int .i64 alg) := H0.out.cell K0.out
           have p6 : u3.cell? ⟨w.heap.size, 28, none⟩ = some (.slice A1 n1 c1) := H0.out.cell K28.out
           have p7 : u3.cell? ⟨w.heap.size, 29, none⟩ = some (.slice A2 n2 c2) := H0.out.cell K29.out
           clear hb p1 p2 p3 p4)
        | (go_at_call 31
           (with_reducible refine (C4.out _ HB.out).mono ?_)
           rintro e u4 ⟨rfl, hb⟩
           replace HB := Lib.hid (HB.out.trans (hb.mono HB.out.size))
           clear hb))
      go_ret
      exact ⟨rfl, HB.out⟩
    | true =>
      cases rd with
      | false =>
        go_enter Tryd.func16, Tryd.ntmps16
        go_wp2_with (first
          | (go_at_call 33
             (with_reducible refine (C1.out _ HB.out).mono ?_)
             rintro e u1 ⟨rfl, hb⟩
             replace HB := Lib.hid (HB.out.trans (hb.mono HB.out.size))
             replace H0 := Lib.hid (H0.out.call hb)
             have p0 := H0.out.load (T := 42) Tryd.underlying42 rfl (by kernel_rfl)
             clear hb q0)
          | (go_at_call 34
             (with_reducible refine (C2.out _ HB.out).mono ?_)
             rintro e u2 ⟨rfl, hb⟩
             replace HB := Lib.hid (HB.out.trans (hb.mono HB.out.size))
             replace H0 := Lib.hid (H0.out.call hb)
             have p1 : u2.cell? ⟨w.heap.size, 27, none⟩ = some (.bool false) := H0.out.cell K27.out
             have p2 : u2.cell? ⟨w.heap.size, 0, none⟩ = some (.int .i64 alg) := H0.out.cell K0.out
             have p3 : u2.cell? ⟨w.heap.size, 28, none⟩ = some (.slice A1 n1 c1) := H0.out.cell K28.out
             have p4 : u2.cell? ⟨w.heap.size, 29, none⟩ = some (.slice A2 n2 c2) := H0.out.cell K29.out
             clear hb p0)
          | (go_at_call 35
             (with_reducible refine (C3.out _ HB.out).mono ?_)
             rintro e u3 ⟨rfl, hb⟩
             replace HB := Lib.hid (HB.out.trans (hb.mono HB.out.size))
             replace H0 := Lib.hid (H0.out.call hb)
             have p5 : u3.cell? ⟨w.heap.size, 0, none⟩ = some (.int .i64 alg) := H0.out.cell K0.out
             have p6 : u3.cell? ⟨w.heap.size, 28, none⟩ = some (.slice A1 n1 c1) := H0.out.cell K28.out
             have p7 : u3.cell? ⟨w.heap.size, 29, none⟩ = some (.slice A2 n2 c2) := H0.out.cell K29.out
             clear hb p1 p2 p3 p4)
          | (go_at_call 31
             (with_reducible refine (C4.out _ HB.out).mono ?_)
             rintro e u4 ⟨rfl, hb⟩
             replace HB := Lib.hid (HB.out.trans (hb.mono HB.out.size))
             clear hb))
        go_ret
        exact ⟨rfl, HB.out⟩
      | true =>
        cases b3 with
        | false =>
          go_enter Tryd.func16, Tryd.ntmps16
          go_wp2_with (first
            | (go_at_call 33
               (with_reducible refine (C1.out _ HB.out).mono ?_)
               rintro e u1 ⟨rfl, hb⟩
               replace HB := Lib.hid (HB.out.trans (hb.mono HB.out.size))
               replace H0 := Lib.hid (H0.out.call hb)
               have p0 := H0.out.load (T := 42) Tryd.underlying42 rfl (by kernel_rfl)
               clear hb q0)
            | (go_at_call 34
               (with_reducible refine (C2.out _ HB.out).mono ?_)
               rintro e u2 ⟨rfl, hb⟩
               replace HB := Lib.hid (HB.out.trans (hb.mono HB.out.size))
               replace H0 := Lib.hid (H0.out.call hb)
               have p1 : u2.cell? ⟨w.heap.size, 27, none⟩ = some (.bool true) := H0.out.cell K27.out
               have p2 : u2.cell? ⟨w.heap.size, 0, none⟩ = some (.int .i64 alg) := H0.out.cell K0.out
               have p3 : u2.cell? ⟨w.heap.size, 28, none⟩ = some (.slice A1 n1 c1) := H0.out.cell K28.out
               have p4 : u2.cell? ⟨w.heap.size, 29, none⟩ = some (.slice A2 n2 c2) := H0.out.cell K29.out
               clear hb p0)
            | (go_at_call 35
               (with_reducible refine (C3.out _ HB.out).mono ?_)
               rintro e u3 ⟨rfl, hb⟩
               replace HB := Lib.hid (HB.out.trans (hb.mono HB.out.size))
               replace H0 := Lib.hid (H0.out.call hb)
               have p5 : u3.cell? ⟨w.heap.size, 0, none⟩ = some (.int .i64 alg) := H0.out.cell K0.out
               have p6 : u3.cell? ⟨w.heap.size, 28, none⟩ = some (.slice A1 n1 c1) := H0.out.cell K28.out
               have p7 : u3.cell? ⟨w.heap.size, 29, none⟩ = some (.slice A2 n2 c2) := H0.out.cell K29.out
               clear hb p1 p2 p3 p4)
            | (go_at_call 31
               (with_reducible refine (C4.out _ HB.out).mono ?_)
               rintro e u4 ⟨rfl, hb⟩
               replace HB := Lib.hid (HB.out.trans (hb.mono HB.out.size))
               clear hb))
          go_ret
          exact ⟨rfl, HB.out⟩
        | true =>
          go_enter Tryd.func16, Tryd.ntmps16
          go_wp2_with (first
            | (go_at_call 33
               (with_reducible refine (C1.out _ HB.out).mono ?_)
               rintro e u1 ⟨rfl, hb⟩
               replace HB := Lib.hid (HB.out.trans (hb.mono HB.out.size))
               replace H0 := Lib.hid (H0.out.call hb)
               have p0 := H0.out.load (T := 42) Tryd.underlying42 rfl (by kernel_rfl)
               clear hb q0)
            | (go_at_call 34
               (with_reducible refine (C2.out _ HB.out).mono ?_)
               rintro e u2 ⟨rfl, hb⟩
               replace HB := Lib.hid (HB.out.trans (hb.mono HB.out.size))
               replace H0 := Lib.hid (H0.out.call hb)
               have p1 : u2.cell? ⟨w.heap.size, 27, none⟩ = some (.bool true) := H0.out.cell K27.out
               have p2 : u2.cell? ⟨w.heap.size, 0, none⟩ = some (.int .i64 alg) := H0.out.cell K0.out
               have p3 : u2.cell? ⟨w.heap.size, 28, none⟩ = some (.slice A1 n1 c1) := H0.out.cell K28.out
               have p4 : u2.cell? ⟨w.heap.size, 29, none⟩ = some (.slice A2 n2 c2) := H0.out.cell K29.out
               clear hb p0)
            | (go_at_call 35
               (with_reducible refine (C3.out _ HB.out).mono ?_)
               rintro e u3 ⟨rfl, hb⟩
               replace HB := Lib.hid (HB.out.trans (hb.mono HB.out.size))
               replace H0 := Lib.hid (H0.out.call hb)
               have p5 : u3.cell? ⟨w.heap.size, 0, none⟩ = some (.int .i64 alg) := H0.out.cell K0.out
               have p6 : u3.cell? ⟨w.heap.size, 28, none⟩ = some (.slice A1 n1 c1) := H0.out.cell K28.out
               have p7 : u3.cell? ⟨w.heap.size, 29, none⟩ = some (.slice A2 n2 c2) := H0.out.cell K29.out
               clear hb p1 p2 p3 p4)
            | (go_at_call 31
               (with_reducible refine (C4.out _ HB.out).mono ?_)
               rintro e u4 ⟨rfl, hb⟩
               replace HB := Lib.hid (HB.out.trans (hb.mono HB.out.size))
               clear hb))
          go_ret
          exact ⟨rfl, HB.out⟩
end
theorem reads3 (kd : Nat) (h : kd ≤ 4) : (decide (kd = 3) || decide (kd = 4)) = decide (3 ≤ kd) := by
  rw [Bool.eq_iff_iff]; simp; omega
theorem right20_any (alg : Int) (f : Nat → Nat) (p : Int) (rd : Bool) (A1 : Option Addr) (c1 : Nat) (xs1 : List Nat) (A2 : Option Addr) (c2 : Nat) (xs2 : List Nat) (hx1 : AllLt 256 xs1) (hx2 : AllLt 256 xs2) (w : World) (hT : ATab w) (h1 : Words .u8 w A1 xs1) (h2 : Words .u8 w A2 xs2) :
    Calls Tryd.prog 16 #[.agg (spV alg f p rd (.slice A1 xs1.length c1) (.slice A2 xs2.length c2))] w fun e w' => e = .returned (.bool (right20 (kdN (idx alg)) (bkN (idx alg)) p rd xs1.length xs2.length)) ∧ Below w.heap.size w w' :=
  rightS_core alg p rd _ A1 xs1.length c1 A2 xs2.length c2 _ _ _ _ w spV_size spV_0 spV_27 spV_28 spV_29
    (fun W hb => isSponge_any alg W (hT.below hb (Nat.le_refl _)))
    (fun W hb => hasPlace_any alg f p rd _ _ W (hT.below hb (Nat.le_refl _)))
    (fun W hb => by have := reads_any alg W (hT.below hb (Nat.le_refl _)); rwa [reads3 _ (kdN_le _)] at this)
    (fun W hb => hasName_any alg A1 c1 xs1 A2 c2 xs2 hx1 hx2 W (hT.below hb (Nat.le_refl _)) (h1.below hb (Nat.le_refl _)) (h2.below hb (Nat.le_refl _)))
end Go.Proofs.YteiemboopkbdpaaDoor.Sn
end

section
namespace Go.Proofs.YteiemboopkbdpaaDoor.Ln
open Go.RowKit Rw
set_option linter.unusedVariables false
set_option linter.unusedSimpArgs false
/-! ### Lanes and bytes -/
def laneB (f : Nat → Nat) (i : Nat) : Nat := f (i / 8) / 256 ^ (i % 8) % 256
def laneOf (g : Nat → Nat) (j : Nat) : Nat :=
  g (8 * j) + g (8 * j + 1) * 256 + g (8 * j + 2) * 65536 + g (8 * j + 3) * 16777216 + g (8 * j + 4) * 4294967296 + g (8 * j + 5) * 1099511627776 + g (8 * j + 6) * 281474976710656 + g (8 * j + 7) * 72057594037927936
def bytesN (f : Nat → Nat) : List Nat := (List.range 200).map (laneB f)
theorem laneB_lt (f : Nat → Nat) (i : Nat) : laneB f i < 256 := Nat.mod_lt _ (by omega)
theorem bytesN_length (f : Nat → Nat) : (bytesN f).length = 200 := by simp [bytesN]
theorem bytesN_lt (f : Nat → Nat) : AllLt 256 (bytesN f) := AllLt.map fun i _ => laneB_lt f i
theorem bytesN_getD (f : Nat → Nat) (i : Nat) (h : i < 200) : (bytesN f).getD i 0 = laneB f i := getD_map _ _ _ _ h
theorem laneOf_lt {g : Nat → Nat} (h : ∀ i, g i < 256) (j : Nat) : laneOf g j < 18446744073709551616 := by
  have h0 := h (8 * j); have h1 := h (8 * j + 1); have h2 := h (8 * j + 2); have h3 := h (8 * j + 3)
  have h4 := h (8 * j + 4); have h5 := h (8 * j + 5); have h6 := h (8 * j + 6); have h7 := h (8 * j + 7)
  unfold laneOf
  omega
theorem laneOf_congr {g h : Nat → Nat} (j : Nat) (hj : j < 25) (e : ∀ i, i < 200 → g i = h i) : laneOf g j = laneOf h j := by
  unfold laneOf
  rw [e _ (by omega : 8 * j < 200), e _ (by omega : 8 * j + 1 < 200), e _ (by omega : 8 * j + 2 < 200), e _ (by omega : 8 * j + 3 < 200), e _ (by omega : 8 * j + 4 < 200), e _ (by omega : 8 * j + 5 < 200), e _ (by omega : 8 * j + 6 < 200), e _ (by omega : 8 * j + 7 < 200)]
theorem laneOf_laneB (f : Nat → Nat) (j : Nat) (h : f j < 18446744073709551616) : laneOf (laneB f) j = f j := by
  unfold laneOf laneB
  rw [show 8 * j / 8 = j by omega, show (8 * j + 1) / 8 = j by omega, show (8 * j + 2) / 8 = j by omega, show (8 * j + 3) / 8 = j by omega, show (8 * j + 4) / 8 = j by omega, show (8 * j + 5) / 8 = j by omega, show (8 * j + 6) / 8 = j by omega, show (8 * j + 7) / 8 = j by omega,
    show 8 * j % 8 = 0 by omega, show (8 * j + 1) % 8 = 1 by omega, show (8 * j + 2) % 8 = 2 by omega, show (8 * j + 3) % 8 = 3 by omega, show (8 * j + 4) % 8 = 4 by omega, show (8 * j + 5) % 8 = 5 by omega, show (8 * j + 6) % 8 = 6 by omega, show (8 * j + 7) % 8 = 7 by omega]
  generalize f j = x at *
  rw [show (256 : Nat) ^ 0 = 1 from rfl, show (256 : Nat) ^ 1 = 256 from rfl, show (256 : Nat) ^ 2 = 65536 from rfl, show (256 : Nat) ^ 3 = 16777216 from rfl, show (256 : Nat) ^ 4 = 4294967296 from rfl, show (256 : Nat) ^ 5 = 1099511627776 from rfl, show (256 : Nat) ^ 6 = 281474976710656 from rfl, show (256 : Nat) ^ 7 = 72057594037927936 from rfl]
  omega
theorem digit_eight (b : Nat → Nat) (k : Nat) (hk : k < 8) (h : ∀ i, b i < 256) :
    (b 0 + b 1 * 256 + b 2 * 65536 + b 3 * 16777216 + b 4 * 4294967296 + b 5 * 1099511627776 + b 6 * 281474976710656 + b 7 * 72057594037927936) / 256 ^ k % 256 = b k := by
  have h0 := h 0; have h1 := h 1; have h2 := h 2; have h3 := h 3; have h4 := h 4; have h5 := h 5; have h6 := h 6; have h7 := h 7
  have hc : k = 0 ∨ k = 1 ∨ k = 2 ∨ k = 3 ∨ k = 4 ∨ k = 5 ∨ k = 6 ∨ k = 7 := by omega
  rcases hc with rfl | rfl | rfl | rfl | rfl | rfl | rfl | rfl
  · rw [show (256 : Nat) ^ 0 = 1 from rfl]; omega
  · rw [show (256 : Nat) ^ 1 = 256 from rfl]; omega
  · rw [show (256 : Nat) ^ 2 = 65536 from rfl]; omega
  · rw [show (256 : Nat) ^ 3 = 16777216 from rfl]; omega
  · rw [show (256 : Nat) ^ 4 = 4294967296 from rfl]; omega
  · rw [show (256 : Nat) ^ 5 = 1099511627776 from rfl]; omega
  · rw [show (256 : Nat) ^ 6 = 281474976710656 from rfl]; omega
  · rw [show (256 : Nat) ^ 7 = 72057594037927936 from rfl]; omega
theorem laneB_laneOf {g : Nat → Nat} (h : ∀ i, g i < 256) (i : Nat) : laneB (laneOf g) i = g i := by
  have := digit_eight (fun k => g (8 * (i / 8) + k)) (i % 8) (Nat.mod_lt _ (by omega)) (fun k => h _)
  simp only [Nat.add_zero] at this
  rw [show 8 * (i / 8) + i % 8 = i by omega] at this
  exact this
theorem laneB_congr {f g : Nat → Nat} (h : ∀ j, j < 25 → f j = g j) (i : Nat) (hi : i < 200) : laneB f i = laneB g i := by unfold laneB; rw [h _ (by omega)]
theorem bytesN_congr {f g : Nat → Nat} (h : ∀ j, j < 25 → f j = g j) : bytesN f = bytesN g := List.map_congr_left fun i hi => laneB_congr h i (List.mem_range.1 hi)
theorem put_bytes (f : Nat → Nat) : putLittle 8 ((List.range 25).map f) = bytesN f := by
  have hl : (putLittle 8 ((List.range 25).map f)).length = 200 := by rw [putLittle_length]; simp
  refine ext_getD (by rw [hl, bytesN_length]) fun i hi => ?_
  rw [hl] at hi
  rw [bytesN_getD _ _ hi]
  have h1 := flat_chunk (leB_length 8) ((List.range 25).map f) (i / 8) (by simp; omega)
  have h2 : (putLittle 8 ((List.range 25).map f)).getD i 0 = (chunk 8 (putLittle 8 ((List.range 25).map f)) (i / 8)).getD (i % 8) 0 := by
    rw [chunk_getD _ _ _ _ (Nat.mod_lt _ (by omega)), show i / 8 * 8 + i % 8 = i by omega]
  rw [h2]
  unfold putLittle
  rw [h1, leB_getD _ _ _ (Nat.mod_lt _ (by omega)), getD_map _ _ _ _ (by omega)]
  rfl
theorem lit_eight (l : List Nat) (h : l.length = 8) : lit l = l.getD 0 0 + l.getD 1 0 * 256 + l.getD 2 0 * 65536 + l.getD 3 0 * 16777216 + l.getD 4 0 * 4294967296 + l.getD 5 0 * 1099511627776 + l.getD 6 0 * 281474976710656 + l.getD 7 0 * 72057594037927936 := by
  match l, h with
  | [a, b, c, d, e, f, g, i], _ =>
    simp only [lit, be, List.reverse_cons, List.reverse_nil, List.nil_append, List.cons_append, List.foldl_cons, List.foldl_nil, List.getD_cons_zero, List.getD_cons_succ]
    omega
theorem little_lanes (xs : List Nat) (h : xs.length = 200) : little64 xs = (List.range 25).map (laneOf fun i => xs.getD i 0) := by
  unfold little64 wordsN
  rw [h]
  refine List.map_congr_left fun k hk => ?_
  have hk := List.mem_range.1 hk
  have hc : (chunk 8 xs k).length = 8 := chunk_length 8 xs k (by omega)
  rw [lit_eight _ hc]
  unfold laneOf
  rw [chunk_getD _ _ _ _ (by omega), chunk_getD _ _ _ _ (by omega), chunk_getD _ _ _ _ (by omega), chunk_getD _ _ _ _ (by omega), chunk_getD _ _ _ _ (by omega), chunk_getD _ _ _ _ (by omega), chunk_getD _ _ _ _ (by omega), chunk_getD _ _ _ _ (by omega), Nat.mul_comm k 8, Nat.add_zero]
theorem little_bytes (f : Nat → Nat) (hf : ∀ j, f j < 18446744073709551616) : little64 (bytesN f) = (List.range 25).map f := by
  rw [little_lanes _ (bytesN_length f)]
  refine List.map_congr_left fun j hj => ?_
  have hj := List.mem_range.1 hj
  rw [laneOf_congr j hj (fun i hi => bytesN_getD f i hi), laneOf_laneB f j (hf j)]
theorem bytes_of (xs : List Nat) (hx : AllLt 256 xs) (h : xs.length = 200) : bytesN (laneOf fun i => xs.getD i 0) = xs := by
  refine ext_getD (by rw [bytesN_length, h]) fun i hi => ?_
  rw [bytesN_length] at hi
  rw [bytesN_getD _ _ hi]
  refine laneB_laneOf (g := fun i => xs.getD i 0) (fun j => ?_) i
  by_cases hj : j < xs.length
  · exact hx.at hj
  · show xs.getD j 0 < 256
    rw [List.getD_eq_getElem?_getD, List.getElem?_eq_none (by omega)]; decide
theorem row_tmp_ret {P : Program} {fn : Func} {p q : Tmp} {T : TypeId} {d : TypeDesc} {Q : Ending → World → Prop} {a : Act} {w : World} {n k : Nat} {c : Array Value} {v : Value} (hr : fn.results = #[.cell p T, .tmp q]) (hp : a.tmps.getD p undef = .pointer (some ⟨n, 0, none⟩)) (hq : a.tmps.getD q undef = v)
    (hn : Hold w n k c) (hu : P.underlying T = some d) (hdd : (match d with | .struct _ | .array _ _ => true | _ => false) = true) (hi : (P.info? T).map (·.size) = some k) (hd : a.defers = []) (hQ : Q (.returned (.tuple #[.agg c, v])) w) : bodyPost P fn Q .ret a w := by
  obtain ⟨t, hg, hs⟩ := hn.heap
  have hp' : a.tmps[p]?.getD undef = .pointer (some ⟨n, 0, none⟩) := by simpa using hp
  have hq' : a.tmps[q]?.getD undef = v := by simpa using hq
  refine bodyPost_ret (v := .tuple #[.agg c, v]) ?_ hd hQ
  simp [results, hr, hp', hq', asAddr, run_loadVar_row w n t T c (0, 0) d hg hu hdd (by rw [hi, hs])]
theorem gives_caps {k : IntKind} {t : TypeId} {ys : List Nat} {w w' : World} {e : Ending} (h : Gives k t ys w e w') :
    ∃ A c, e = .returned (.slice A ys.length c) ∧ ys.length ≤ c ∧ c ≤ maxLen ∧ Row k t w.heap.size w' (.slice A ys.length c) ys ∧ Words k w' A ys ∧ Below w.heap.size w w' := by
  obtain ⟨A, c, rfl, hr, hw, hb⟩ := h
  refine ⟨A, c, rfl, ?_, ?_, hr, hw, hb⟩
  · rcases hr.2 with ⟨e0, h0⟩ | ⟨g, cap, cur, e0, hbg, hg, hn, hm, _⟩
    · rw [h0]; exact Nat.zero_le _
    · injection e0 with _ e2 e3; subst e3; exact hn
  · rcases hr.2 with ⟨e0, h0⟩ | ⟨g, cap, cur, e0, hbg, hg, hn, hm, _⟩
    · injection e0 with _ e2 e3; subst e3; exact Nat.zero_le _
    · injection e0 with _ e2 e3; subst e3; exact hm
/-! ### Windows -/
def winB (p : Int) (xs : List Nat) (i : Nat) : Nat := if p ≤ (i : Int) ∧ (i : Int) - p < (xs.length : Int) then xs.getD ((i : Int) - p).toNat 0 else 0
def xorG (f : Nat → Nat) (p : Int) (xs : List Nat) (i : Nat) : Nat := laneB f i ^^^ winB p xs i
def xorN (f : Nat → Nat) (p : Int) (xs : List Nat) : Nat → Nat := laneOf (xorG f p xs)
theorem winB_lt {p : Int} {xs : List Nat} (hx : AllLt 256 xs) (i : Nat) : winB p xs i < 256 := by
  unfold winB
  split
  · rename_i h
    exact hx.at (by omega)
  · decide
theorem xorG_lt {f : Nat → Nat} {p : Int} {xs : List Nat} (hx : AllLt 256 xs) (i : Nat) : xorG f p xs i < 256 := Nat.xor_lt_two_pow (n := 8) (laneB_lt f i) (winB_lt hx i)
theorem xorN_lt {f : Nat → Nat} {p : Int} {xs : List Nat} (hx : AllLt 256 xs) (j : Nat) : xorN f p xs j < 18446744073709551616 := laneOf_lt (xorG_lt hx) j
theorem laneB_xorN {f : Nat → Nat} {p : Int} {xs : List Nat} (hx : AllLt 256 xs) (i : Nat) : laneB (xorN f p xs) i = xorG f p xs i := laneB_laneOf (xorG_lt hx) i
theorem xorN_twice {f : Nat → Nat} (hf : ∀ j, f j < 18446744073709551616) {p : Int} {xs : List Nat} (hx : AllLt 256 xs) (j : Nat) (hj : j < 25) : xorN (xorN f p xs) p xs j = f j := by
  rw [← laneOf_laneB f j (hf j)]
  refine laneOf_congr j hj fun i hi => ?_
  unfold xorG
  rw [laneB_xorN hx, xorG, Nat.xor_assoc, Nat.xor_self, Nat.xor_zero]
theorem xorN_none {f : Nat → Nat} (hf : ∀ j, f j < 18446744073709551616) {p : Int} {xs : List Nat} (h : ∀ i : Nat, i < 200 → ¬ (p ≤ (i : Int) ∧ (i : Int) - p < (xs.length : Int))) (j : Nat) (hj : j < 25) : xorN f p xs j = f j := by
  rw [← laneOf_laneB f j (hf j)]
  refine laneOf_congr j hj fun i hi => ?_
  unfold xorG winB
  rw [if_neg (h i hi), Nat.xor_zero]
theorem xorN_congr {f g : Nat → Nat} (h : ∀ j, j < 25 → f j = g j) {p : Int} {xs : List Nat} (j : Nat) (hj : j < 25) : xorN f p xs j = xorN g p xs j :=
  laneOf_congr j hj fun i hi => by unfold xorG; rw [laneB_congr h i hi]
def outN (f : Nat → Nat) (p n : Int) : List Nat := ((List.range 200).filter fun i : Nat => decide (p ≤ (i : Int) ∧ (i : Int) - p < n)).map (laneB f)
structure Win (p n : Int) (a b : Nat) : Prop where
  le : a ≤ b
  top : b ≤ 200
  iff : ∀ i : Nat, i < 200 → (p ≤ (i : Int) ∧ (i : Int) - p < n ↔ a ≤ i ∧ i < b)
  low : a < b → 0 ≤ (a : Int) - p ∧ ((a : Int) - p) + ((b : Int) - (a : Int)) ≤ n
theorem filter_window (a b : Nat) : ∀ m, (List.range m).filter (fun i : Nat => decide (a ≤ i ∧ i < b)) = (List.range (min m b - a)).map (a + ·)
  | 0 => by simp
  | m + 1 => by
    rw [List.range_succ, List.filter_append, filter_window a b m]
    by_cases h : a ≤ m ∧ m < b
    · rw [show min (m + 1) b - a = (min m b - a) + 1 by omega, range_succ_map, show a + (min m b - a) = m by omega]
      simp [h]
    · rw [show min (m + 1) b - a = min m b - a by omega]
      simp only [List.filter_cons, h, decide_false, List.filter_nil]
      simp
theorem outN_win {f : Nat → Nat} {p n : Int} {a b : Nat} (h : Win p n a b) : outN f p n = (List.range (b - a)).map fun i => laneB f (a + i) := by
  have e : (List.range 200).filter (fun i : Nat => decide (p ≤ (i : Int) ∧ (i : Int) - p < n)) = (List.range 200).filter (fun i : Nat => decide (a ≤ i ∧ i < b)) :=
    List.filter_congr fun i hi => by rw [decide_eq_decide]; exact h.iff i (List.mem_range.1 hi)
  unfold outN
  rw [e, filter_window, Nat.min_eq_right h.top, List.map_map]
  rfl
theorem outN_length {f : Nat → Nat} {p n : Int} {a b : Nat} (h : Win p n a b) : (outN f p n).length = b - a := by rw [outN_win h]; simp
theorem outN_cut {f : Nat → Nat} {p n : Int} {a b : Nat} (h : Win p n a b) : ((bytesN f).drop a).take (b - a) = outN f p n := by
  have ht := h.top
  have hl := h.le
  rw [outN_win h]
  refine ext_getD (by rw [List.length_take, List.length_drop, bytesN_length]; simp; omega) fun i hi => ?_
  rw [List.length_take, List.length_drop, bytesN_length] at hi
  rw [getD_take _ _ _ (by omega), getD_drop, bytesN_getD _ _ (by omega), getD_map _ _ _ _ (by omega)]
theorem outN_lt (f : Nat → Nat) (p n : Int) : AllLt 256 (outN f p n) := fun y hy => by
  obtain ⟨i, _, rfl⟩ := List.mem_map.1 hy
  exact laneB_lt f i
theorem outN_le (f : Nat → Nat) (p n : Int) : (outN f p n).length ≤ 200 := by
  unfold outN
  rw [List.length_map]
  exact Nat.le_trans (List.length_filter_le _ _) (by simp)
theorem xor_splice {f : Nat → Nat} {p : Int} {xs : List Nat} {a b l : Nat} (h : Win p (xs.length : Nat) a b) (hab : a < b) (hl : (l : Int) = (a : Int) - p) :
    splice (cellsOf .u8 (bytesN f)) a (cellsOf .u8 (xorL (((bytesN f).drop a).take (b - a)) (xs.drop l))) = cellsOf .u8 ((List.range 200).map (xorG f p xs)) := by
  have ht := h.top
  have hlow := h.low hab
  have hX : (xorL (((bytesN f).drop a).take (b - a)) (xs.drop l)).length = b - a := by
    rw [xorL_length, List.length_take, List.length_drop, bytesN_length, List.length_drop]; omega
  have e : splice (cellsOf .u8 (bytesN f)) a (cellsOf .u8 (xorL (((bytesN f).drop a).take (b - a)) (xs.drop l))) = cellsOf .u8 ((bytesN f).take a ++ (xorL (((bytesN f).drop a).take (b - a)) (xs.drop l) ++ (bytesN f).drop (a + (b - a)))) := by
    unfold splice
    rw [cellsOf_length, hX]
    simp [cellsOf]
  rw [e]
  congr 1
  refine ext_getD (by rw [List.length_append, List.length_append, hX, List.length_take, List.length_drop, bytesN_length]; simp; omega) fun i hi => ?_
  rw [List.length_append, List.length_append, hX, List.length_take, List.length_drop, bytesN_length] at hi
  have hi2 : i < 200 := by omega
  rw [getD_map _ _ _ _ hi2]
  have hiff := h.iff i hi2
  by_cases h1 : i < a
  · have hw : winB p xs i = 0 := by unfold winB; rw [if_neg (by omega)]
    rw [xorG, hw, Nat.xor_zero, List.getD_eq_getElem?_getD, List.getElem?_append_left (by rw [List.length_take, bytesN_length]; omega), List.getElem?_take_of_lt h1, ← List.getD_eq_getElem?_getD, bytesN_getD _ _ hi2]
  · rw [List.getD_eq_getElem?_getD, List.getElem?_append_right (by rw [List.length_take, bytesN_length]; omega), List.length_take, bytesN_length, Nat.min_eq_left (by omega)]
    by_cases h2 : i < b
    · rw [List.getElem?_append_left (by rw [hX]; omega), ← List.getD_eq_getElem?_getD, xorL_getD _ _ _ (by rw [List.length_take, List.length_drop, bytesN_length, List.length_drop]; omega), getD_take _ _ _ (by omega), getD_drop, getD_drop, show a + (i - a) = i by omega, bytesN_getD _ _ hi2]
      unfold xorG winB
      rw [if_pos (by omega), show ((i : Int) - p).toNat = l + (i - a) by omega]
    · have hw : winB p xs i = 0 := by unfold winB; rw [if_neg (by omega)]
      rw [List.getElem?_append_right (by rw [hX]; omega), hX, List.getElem?_drop, ← List.getD_eq_getElem?_getD, show a + (b - a) + (i - a - (b - a)) = i by omega, bytesN_getD _ _ hi2, xorG, hw, Nat.xor_zero]
theorem win_in (p n : Nat) (h : p + n ≤ 200) : Win (p : Int) (n : Int) p (p + n) := ⟨by omega, h, fun i hi => by omega, fun _ => by omega⟩
theorem out_xor (p : Nat) (xs : List Nat) (hx : AllLt 256 xs) (h : p + xs.length ≤ 200) : outN (xorN (fun _ => 0) p xs) p (xs.length : Nat) = xs := by
  rw [outN_win (win_in p xs.length h), show p + xs.length - p = xs.length by omega]
  refine Eq.trans (List.map_congr_left fun i hi => ?_) (range_getD xs)
  have hi := List.mem_range.1 hi
  rw [laneB_xorN hx]
  unfold xorG winB laneB
  rw [if_pos (by omega), Nat.zero_div, Nat.zero_mod, Nat.zero_xor, show (((p + i : Nat) : Int) - (p : Int)).toNat = i by omega]
theorem xor_out_none (p : Nat) (xs : List Nat) (hx : AllLt 256 xs) (i : Nat) (h : i < p ∨ p + xs.length ≤ i) : laneB (xorN (fun _ => 0) p xs) i = 0 := by
  rw [laneB_xorN hx]
  unfold xorG winB laneB
  rw [if_neg (by omega), Nat.zero_div, Nat.zero_mod, Nat.zero_xor]
end Go.Proofs.YteiemboopkbdpaaDoor.Ln
end

section
namespace Go.Proofs.YteiemboopkbdpaaDoor.Ln
open Go.RowKit Rw L64
set_option linter.unusedVariables false
set_option linter.unusedSimpArgs false
set_option maxRecDepth 20000 in
set_option maxHeartbeats 1000000 in
theorem bytes14_any (f : Nat → Nat) (hf : ∀ i, f i < 18446744073709551616) (w : World) :
    Calls Tryd.prog 57 #[.agg (uTab 25 f)] w (Gives .u8 5 (bytesN f) w) := by
  go_enter Tryd.func57, Tryd.ntmps57
  go_wp2_with fail
  have C1 := putL64_any (some ⟨w.heap.size, 0, none⟩) 25 ((List.range 25).map f) (AllLt.map fun i _ => hf i) (by simp) _ (words_new w 40 .u64 ((List.range 25).map f) (c := uTab 25 f) (uTab_list 25 f))
  rw [put_bytes, show ((List.range 25).map f).length = 25 by simp] at C1
  refine C1.mono ?_
  rintro e w' ⟨A', c', rfl, h1, h2, h3⟩
  rw [bytesN_length]
  have H1 := Lib.hid h1
  clear h1 C1
  go_wp2
  go_ret
  exact ⟨A', c', by rw [bytesN_length]; rfl, H1.out.mono (by simp), h2, ((Below.refl _ w).alloc (Nat.le_refl _) _).trans (h3.mono (by simp))⟩
end Go.Proofs.YteiemboopkbdpaaDoor.Ln
end

section
namespace Go.Proofs.YteiemboopkbdpaaDoor.Sn
open Go.RowKit Rw Mk Cd L64 Al Ln
set_option linter.unusedVariables false
set_option linter.unusedSimpArgs false
def nameB (kd : Nat) (xs1 xs2 : List Nat) : List Nat := if kd = 4 then textN xs1 ++ textN xs2 else []
def spgB (alg kd : Nat) (f : Nat → Nat) (p : Nat) (rd : Bool) (xs1 xs2 : List Nat) : List Nat := headN alg rd ++ ([p] ++ (bytesN f ++ nameB kd xs1 xs2))
set_option maxRecDepth 100000 in
set_option maxHeartbeats 2000000 in
theorem putSponge_core (B b : Nat) (ys : List Nat) (alg : Int) (kd : Nat) (f : Nat → Nat) (p : Nat) (hp : p < 256) (rd : Bool) (A1 : Option Addr) (c1 : Nat) (xs1 : List Nat) (A2 : Option Addr) (c2 : Nat) (xs2 : List Nat) (zb z1 z2 : List Nat) (w : World)
    (hW : Wt B b ys w) (hBw : B ≤ w.heap.size) (hA1 : xs1 ≠ [] → ∀ a, A1 = some a → a.block < B) (hA2 : xs2 ≠ [] → ∀ a, A2 = some a → a.block < B) (hw1 : Words .u8 w A1 xs1) (hw2 : Words .u8 w A2 xs2) (hzb : zb.length ≤ 1000) (h1 : z1.length ≤ 10000) (h2 : z2.length ≤ 10000) (hy : ys.length ≤ 1000000)
    (C0 : ∀ W, Keep B b w W → Calls Tryd.prog 54 #[.int .i64 alg] W fun e w' => e = .returned (.int .i64 (kd : Nat)) ∧ Below W.heap.size W w')
    (C1 : ∀ W, Calls Tryd.prog 57 #[.agg (uTab 25 f)] W (Gives .u8 5 zb W))
    (C2 : kd = 4 → ∀ W, Words .u8 W A1 xs1 → Calls Tryd.prog 58 #[.slice A1 xs1.length c1] W (Gives .u8 5 z1 W))
    (C3 : kd = 4 → ∀ W, Words .u8 W A2 xs2 → Calls Tryd.prog 58 #[.slice A2 xs2.length c2] W (Gives .u8 5 z2 W)) :
    Calls Tryd.prog 32 #[.func (.func 23) #[.pointer (some ⟨b, 0, none⟩)] #[], .agg (spV alg f (p : Nat) rd (.slice A1 xs1.length c1) (.slice A2 xs2.length c2))] w
      fun e w' => e = .returned (.tuple #[]) ∧ Wt B b (ys ++ ([p] ++ (zb ++ (if kd = 4 then z1 ++ z2 else [])))) w' ∧ Keep B b w w' := by
  have b1 : Below w.heap.size w (w.alloc (.cells (spV alg f (p : Nat) rd (.slice A1 xs1.length c1) (.slice A2 xs2.length c2)) 42)) := (Below.refl _ _).alloc (Nat.le_refl _) _
  have hP : PB w B b w.heap.size 42 (spV alg f (p : Nat) rd (.slice A1 xs1.length c1) (.slice A2 xs2.length c2)) none [] ys (w.alloc (.cells (spV alg f (p : Nat) rd (.slice A1 xs1.length c1) (.slice A2 xs2.length c2)) 42)) :=
    ⟨hW.call b1, Keep.of_below hBw b1, heap_alloc_new w _, (fun i hi => by cases hi), Nat.le_trans hBw b1.size⟩
  have hH := hP.at'.hold (k := 30) spV_size
  have q0 : (w.alloc (.cells (spV alg f (p : Nat) rd (.slice A1 xs1.length c1) (.slice A2 xs2.length c2)) 42)).cell? ⟨w.heap.size, 26, none⟩ = some (.int .i64 (p : Nat)) := hH.cell spV_26
  have HP := Lib.hid hP
  have HC0 := Lib.hid C0
  have HC1 := Lib.hid C1
  have HW1 : Hid (∀ W, Keep B b w W → Words .u8 W A1 xs1) := fun W k => Words.keep hw1 hA1 k.below
  have HW2 : Hid (∀ W, Keep B b w W → Words .u8 W A2 xs2) := fun W k => Words.keep hw2 hA2 k.below
  have hnb : w.heap.size ≠ b := fun e => absurd hW.lt (by omega)
  have hT : 42 ≠ 5 := by decide
  have hA0 : ([] : List Nat) ≠ [] → ∀ a : Addr, none = some a → a.block < B := fun _ a e => by cases e
  have HQ : Hid (∀ ys W, PB w B b w.heap.size 42 (spV alg f (p : Nat) rd (.slice A1 xs1.length c1) (.slice A2 xs2.length c2)) none [] ys W → Hold W w.heap.size 30 (spV alg f (p : Nat) rd (.slice A1 xs1.length c1) (.slice A2 xs2.length c2))) := fun ys W h => h.at'.hold spV_size
  have K0 : Hid ((spV alg f (p : Nat) rd (.slice A1 xs1.length c1) (.slice A2 xs2.length c2))[0]? = some (.int .i64 alg)) := spV_0
  have K28 : Hid ((spV alg f (p : Nat) rd (.slice A1 xs1.length c1) (.slice A2 xs2.length c2))[28]? = some (.slice A1 xs1.length c1)) := spV_28
  have K29 : Hid ((spV alg f (p : Nat) rd (.slice A1 xs1.length c1) (.slice A2 xs2.length c2))[29]? = some (.slice A2 xs2.length c2)) := spV_29
  have KL : Hid (∀ W, Hold W w.heap.size 30 (spV alg f (p : Nat) rd (.slice A1 xs1.length c1) (.slice A2 xs2.length c2)) → (loadRow 40 (.pointer (some ⟨w.heap.size, 1, none⟩))).run Tryd.prog W = .ok (.agg (uTab 25 f)) W) := fun W h => sp_lanes h
  have P1 : Hid (Calls Tryd.prog 23 #[.pointer (some ⟨b, 0, none⟩), .slice (some ⟨w.heap.size + 1, 0, none⟩) 1 1] ((w.alloc (.cells (spV alg f (p : Nat) rd (.slice A1 xs1.length c1) (.slice A2 xs2.length c2)) 42)).alloc (.cells #[.int .u8 (p : Nat)] 5)) fun e w' => e = .returned (.tuple #[]) ∧ PB w B b w.heap.size 42 (spV alg f (p : Nat) rd (.slice A1 xs1.length c1) (.slice A2 xs2.length c2)) none [] (ys ++ [p]) w') := by
    have := hP.put1 hnb hT hA0 [p] 1 rfl #[.int .u8 (p : Nat)] rfl (by simp only [List.length_cons, List.length_nil]; omega)
    rw [World.size_alloc] at this
    exact this
  have hwr : IntKind.u8.wrap (p : Int) = (p : Int) := by rw [IntKind.wrap_u8]; omega
  have hwr2 : (p : Int) % 256 = (p : Int) := by omega
  have HA0 := Lib.hid hA0
  clear hW hBw hw1 hw2 hA1 hA2 C0 C1 b1 hP hH hA0 hp
  generalize spV alg f (p : Nat) rd (.slice A1 xs1.length c1) (.slice A2 xs2.length c2) = u at *
  by_cases h4 : kd = 4
  · have k4 : ((kd : Int) == 4) = true := by rw [beq_iff_eq]; omega
    have HC2 := Lib.hid (C2 h4)
    have HC3 := Lib.hid (C3 h4)
    rw [if_pos h4]
    clear C2 C3 h4
    go_enter Tryd.func32, Tryd.ntmps32
    go_wp2_with (first
      | (go_at_call 23
         (with_reducible refine P1.out.mono ?_)
         rintro e u1 ⟨rfl, hp⟩
         replace HP := Lib.hid hp
         have p1 := KL.out _ (HQ.out _ _ HP.out)
         clear hp q0)
      | (go_at_call 57
         (with_reducible refine (HC1.out _).mono ?_)
         rintro e u2 ⟨A3, c3, rfl, hr, hw1, hb⟩
         have HV := Lib.hid hw1
         have HN := Lib.hid (row_ne hr HP.out.wt.lt)
         replace HP := Lib.hid (HP.out.call hb)
         clear hb hr hw1 p1)
      | (go_at_call 54
         (with_reducible refine (HC0.out _ HP.out.keep).mono ?_)
         rintro e u2 ⟨rfl, hb⟩
         replace HP := Lib.hid (HP.out.call hb)
         have p3 : u2.cell? ⟨w.heap.size, 28, none⟩ = some (.slice A1 xs1.length c1) := (HQ.out _ _ HP.out).cell K28.out
         clear hb p2)
      | (go_at_call 58
         (with_reducible refine (HC2.out _ (HW1.out _ HP.out.keep)).mono ?_)
         rintro e u2 ⟨A3, c3, rfl, hr, hw1, hb⟩
         have HV := Lib.hid hw1
         have HN := Lib.hid (row_ne hr HP.out.wt.lt)
         replace HP := Lib.hid (HP.out.call hb)
         clear hb hr hw1)
      | (go_at_call 58
         (with_reducible refine (HC3.out _ (HW2.out _ HP.out.keep)).mono ?_)
         rintro e u2 ⟨A3, c3, rfl, hr, hw1, hb⟩
         have HV := Lib.hid hw1
         have HN := Lib.hid (row_ne hr HP.out.wt.lt)
         replace HP := Lib.hid (HP.out.call hb)
         clear hb hr hw1)
      | (go_at_call 23
         (with_reducible refine (HP.out.put hnb hT HA0.out (fun _ => HN.out) HV.out (by (try simp only [List.length_append, List.length_cons, List.length_nil]); omega)).mono ?_)
         rintro e u3 ⟨rfl, hp⟩
         replace HP := Lib.hid hp
         have p2 : u3.cell? ⟨w.heap.size, 0, none⟩ = some (.int .i64 alg) := (HQ.out _ _ HP.out).cell K0.out
         have p4 : u3.cell? ⟨w.heap.size, 29, none⟩ = some (.slice A2 xs2.length c2) := (HQ.out _ _ HP.out).cell K29.out
         clear hp HV HN))
    go_end0
    refine ⟨rfl, ?_, HP.out.keep⟩
    have := HP.out.wt
    simpa only [List.append_assoc, List.cons_append, List.nil_append] using this
  · have k4 : ((kd : Int) == 4) = false := by rw [beq_eq_false_iff_ne]; omega
    rw [if_neg h4]
    clear C2 C3 h4
    go_enter Tryd.func32, Tryd.ntmps32
    go_wp2_with (first
      | (go_at_call 23
         (with_reducible refine P1.out.mono ?_)
         rintro e u1 ⟨rfl, hp⟩
         replace HP := Lib.hid hp
         have p1 := KL.out _ (HQ.out _ _ HP.out)
         clear hp q0)
      | (go_at_call 57
         (with_reducible refine (HC1.out _).mono ?_)
         rintro e u2 ⟨A3, c3, rfl, hr, hw1, hb⟩
         have HV := Lib.hid hw1
         have HN := Lib.hid (row_ne hr HP.out.wt.lt)
         replace HP := Lib.hid (HP.out.call hb)
         clear hb hr hw1 p1)
      | (go_at_call 54
         (with_reducible refine (HC0.out _ HP.out.keep).mono ?_)
         rintro e u2 ⟨rfl, hb⟩
         replace HP := Lib.hid (HP.out.call hb)
         have p3 : u2.cell? ⟨w.heap.size, 28, none⟩ = some (.slice A1 xs1.length c1) := (HQ.out _ _ HP.out).cell K28.out
         clear hb p2)
      | (go_at_call 58
         (with_reducible refine (HC2.out _ (HW1.out _ HP.out.keep)).mono ?_)
         rintro e u2 ⟨A3, c3, rfl, hr, hw1, hb⟩
         have HV := Lib.hid hw1
         have HN := Lib.hid (row_ne hr HP.out.wt.lt)
         replace HP := Lib.hid (HP.out.call hb)
         clear hb hr hw1)
      | (go_at_call 58
         (with_reducible refine (HC3.out _ (HW2.out _ HP.out.keep)).mono ?_)
         rintro e u2 ⟨A3, c3, rfl, hr, hw1, hb⟩
         have HV := Lib.hid hw1
         have HN := Lib.hid (row_ne hr HP.out.wt.lt)
         replace HP := Lib.hid (HP.out.call hb)
         clear hb hr hw1)
      | (go_at_call 23
         (with_reducible refine (HP.out.put hnb hT HA0.out (fun _ => HN.out) HV.out (by (try simp only [List.length_append, List.length_cons, List.length_nil]); omega)).mono ?_)
         rintro e u3 ⟨rfl, hp⟩
         replace HP := Lib.hid hp
         have p2 : u3.cell? ⟨w.heap.size, 0, none⟩ = some (.int .i64 alg) := (HQ.out _ _ HP.out).cell K0.out
         have p4 : u3.cell? ⟨w.heap.size, 29, none⟩ = some (.slice A2 xs2.length c2) := (HQ.out _ _ HP.out).cell K29.out
         clear hp HV HN))
    go_end0
    refine ⟨rfl, ?_, HP.out.keep⟩
    have := HP.out.wt
    simpa only [List.append_assoc, List.append_nil, List.cons_append, List.nil_append] using this
end Go.Proofs.YteiemboopkbdpaaDoor.Sn
end

section
namespace Go.Proofs.YteiemboopkbdpaaDoor.Sn
open Go.RowKit Rw Mk Cd L64 Al Ln
set_option linter.unusedVariables false
set_option linter.unusedSimpArgs false
theorem idx_sponge {alg : Int} (h : 2 ≤ kdN (idx alg)) : ∃ a : Nat, alg = (a : Int) ∧ 7 ≤ a ∧ a ≤ 14 := by
  by_cases h0 : alg < 0
  · rw [idx_out (by omega)] at h; exact absurd h (by decide)
  · by_cases h1 : 15 ≤ alg
    · rw [idx_out (by omega)] at h; exact absurd h (by decide)
    · obtain ⟨a, rfl⟩ := Int.eq_ofNat_of_zero_le (show 0 ≤ alg by omega)
      rw [idx_nat (by omega)] at h
      refine ⟨a, rfl, ?_, by omega⟩
      rcases Nat.lt_or_ge a 7 with h7 | h7
      · exfalso
        match a, h7, h with
        | 0, _, h | 1, _, h | 2, _, h | 3, _, h | 4, _, h | 5, _, h | 6, _, h => exact absurd h (by decide)
      · exact h7
theorem right20_spec {kd bk : Nat} {p : Int} {rd : Bool} {n1 n2 : Nat} (h : right20 kd bk p rd n1 n2 = true) : 2 ≤ kd ∧ 0 ≤ p ∧ p ≤ bk ∧ nmOk kd n1 n2 = true := by
  unfold right20 placeOk at h
  simp only [Bool.and_eq_true, Bool.or_eq_true, decide_eq_true_eq] at h
  obtain ⟨h1, ⟨h2, h3⟩, -, h5⟩ := h
  exact ⟨h1, h2, by omega, h5⟩
theorem nmOk_le {kd n1 n2 : Nat} (h : nmOk kd n1 n2 = true) : n1 ≤ 1000 ∧ n2 ≤ 1000 := by
  unfold nmOk at h
  split at h <;> simp only [Bool.and_eq_true, decide_eq_true_eq] at h <;> omega
theorem textN_le (xs : List Nat) (h : xs.length ≤ 1000) : (textN xs).length ≤ 2000 := by
  rw [textN_length]
  have := nb_le (8 * xs.length)
  omega
section
attribute [local go_sem ↓] loadSp
set_option maxRecDepth 100000 in
set_option maxHeartbeats 2000000 in
theorem snapSponge_no (alg : Int) (f : Nat → Nat) (p : Int) (rd : Bool) (A1 : Option Addr) (c1 : Nat) (xs1 : List Nat) (A2 : Option Addr) (c2 : Nat) (xs2 : List Nat) (hx1 : AllLt 256 xs1) (hx2 : AllLt 256 xs2) (w : World) (hT : ATab w) (h1 : Words .u8 w A1 xs1) (h2 : Words .u8 w A2 xs2)
    (hr : right20 (kdN (idx alg)) (bkN (idx alg)) p rd xs1.length xs2.length = false) :
    Calls Tryd.prog 15 #[.agg (spV alg f p rd (.slice A1 xs1.length c1) (.slice A2 xs2.length c2))] w fun e w' => e = .returned (.tuple #[.slice none 0 0, .int .i64 1]) ∧ Below w.heap.size w w' := by
  have hb0 : Below w.heap.size w (w.alloc (.cells (spV alg f p rd (.slice A1 xs1.length c1) (.slice A2 xs2.length c2)) 42)) := (Below.refl _ w).alloc (Nat.le_refl _) _
  have C1 := Lib.hid (right20_any alg f p rd A1 c1 xs1 A2 c2 xs2 hx1 hx2 _ (hT.below hb0 (Nat.le_refl _)) (h1.below hb0 (Nat.le_refl _)) (h2.below hb0 (Nat.le_refl _)))
  rw [hr] at C1
  have H0 := Hold.new w (spV alg f p rd (.slice A1 xs1.length c1) (.slice A2 xs2.length c2)) 42 30 spV_size
  have q0 := H0.load (T := 42) Tryd.underlying42 rfl (by kernel_rfl)
  have HB := Lib.hid hb0
  clear H0 hr hb0 hT h1 h2
  generalize spV alg f p rd (.slice A1 xs1.length c1) (.slice A2 xs2.length c2) = u at *
  go_enter Tryd.func15, Tryd.ntmps15
  go_wp2_with (go_at_call 16; (with_reducible refine C1.out.mono ?_); rintro e u1 ⟨rfl, hb1⟩; have HB1 := Lib.hid (HB.out.trans (hb1.mono HB.out.size)); clear hb1)
  go_ret2
  exact ⟨rfl, HB1.out⟩
set_option maxRecDepth 100000 in
set_option maxHeartbeats 2000000 in
theorem snapSponge_yes (a : Nat) (f : Nat → Nat) (hf : ∀ i, f i < 18446744073709551616) (p : Nat) (rd : Bool) (A1 : Option Addr) (c1 : Nat) (xs1 : List Nat) (A2 : Option Addr) (c2 : Nat) (xs2 : List Nat) (hx1 : AllLt 256 xs1) (hx2 : AllLt 256 xs2) (w : World) (hT : ATab w) (h1 : Words .u8 w A1 xs1) (h2 : Words .u8 w A2 xs2)
    (hr : right20 (kdN (idx a)) (bkN (idx a)) p rd xs1.length xs2.length = true) :
    Calls Tryd.prog 15 #[.agg (spV a f (p : Nat) rd (.slice A1 xs1.length c1) (.slice A2 xs2.length c2))] w (GivesE (spgB a (kdN (idx a)) f p rd xs1 xs2) 0 w) := by
  have hb0 : Below w.heap.size w (w.alloc (.cells (spV a f (p : Nat) rd (.slice A1 xs1.length c1) (.slice A2 xs2.length c2)) 42)) := (Below.refl _ w).alloc (Nat.le_refl _) _
  have C1 := Lib.hid (right20_any a f (p : Nat) rd A1 c1 xs1 A2 c2 xs2 hx1 hx2 _ (hT.below hb0 (Nat.le_refl _)) (h1.below hb0 (Nat.le_refl _)) (h2.below hb0 (Nat.le_refl _)))
  rw [hr] at C1
  obtain ⟨r1, r2, r3, r4⟩ := right20_spec hr
  obtain ⟨n1, n2⟩ := nmOk_le r4
  obtain ⟨a', ha', h7, h14⟩ := idx_sponge r1
  obtain rfl : a = a' := by omega
  have hbk := bkN_le (idx (a : Int))
  have t1 := textN_le xs1 n1
  have t2 := textN_le xs2 n2
  have C3 : Hid (∀ B b ys W, Wt B b ys W → B ≤ W.heap.size → ATab W → 1 < B → (xs1 ≠ [] → ∀ x, A1 = some x → x.block < B) → (xs2 ≠ [] → ∀ x, A2 = some x → x.block < B) → Words .u8 W A1 xs1 → Words .u8 W A2 xs2 → ys.length ≤ 1000000 →
      Calls Tryd.prog 32 #[.func (.func 23) #[.pointer (some ⟨b, 0, none⟩)] #[], .agg (spV a f (p : Nat) rd (.slice A1 xs1.length c1) (.slice A2 xs2.length c2))] W
        fun e w' => e = .returned (.tuple #[]) ∧ Wt B b (ys ++ ([p] ++ (bytesN f ++ nameB (kdN (idx a)) xs1 xs2))) w' ∧ Keep B b W w') :=
    fun B b ys W k1 k2 k3 k3' k4 k5 k6 k7 k8 => putSponge_core B b ys a (kdN (idx a)) f p (by omega) rd A1 c1 xs1 A2 c2 xs2 (bytesN f) (textN xs1) (textN xs2) W k1 k2 k4 k5 k6 k7 (by simp [bytesN]) (by omega) (by omega) k8
      (fun V hV => kind_any a V (ATab.keep k3 k3' hV)) (fun V => bytes14_any f hf V) (fun _ V hV => Cd.text_any A1 c1 xs1 (by omega) V hV) (fun _ V hV => Cd.text_any A2 c2 xs2 (by omega) V hV)
  have C2 : Hid (∀ B b W, Wt B b [] W → B ≤ W.heap.size → Calls Tryd.prog 22 #[.func (.func 23) #[.pointer (some ⟨b, 0, none⟩)] #[], .int .i64 (a : Nat), .bool rd] W fun e w' => e = .returned (.tuple #[]) ∧ Wt B b (headN a rd) w' ∧ Keep B b W w') :=
    fun B b W k1 k2 => putHead_any B b [] a rd W k1 k2 (by omega) (by simp)
  have hlen : (headN a rd).length ≤ 1000000 := by simp [headN]
  have hH := Hold.new w (spV a f (p : Nat) rd (.slice A1 xs1.length c1) (.slice A2 xs2.length c2)) 42 30 spV_size
  have H0 := Lib.hid hH
  have q0 := hH.load (T := 42) Tryd.underlying42 rfl (by kernel_rfl)
  have HB := Lib.hid hb0
  have HT := Lib.hid hT
  have HW1 := Lib.hid h1
  have HW2 := Lib.hid h2
  have HA1 := Lib.hid (words_lt h1)
  have HA2 := Lib.hid (words_lt h2)
  have cA : Hid ((spV a f (p : Nat) rd (.slice A1 xs1.length c1) (.slice A2 xs2.length c2))[0]? = some (.int .i64 (a : Nat))) := spV_0
  have cF : Hid ((spV a f (p : Nat) rd (.slice A1 xs1.length c1) (.slice A2 xs2.length c2))[27]? = some (.bool rd)) := spV_27
  have HE := Lib.hid (show spgB a (kdN (idx a)) f p rd xs1 xs2 = headN a rd ++ ([p] ++ (bytesN f ++ nameB (kdN (idx a)) xs1 xs2)) from rfl)
  clear hr hT h1 h2 hb0 hH r1 r2 r3 r4 n1 n2 ha' h7 h14 hbk t1 t2 hf
  generalize [p] ++ (bytesN f ++ nameB (kdN (idx (a : Int))) xs1 xs2) = z2 at *
  generalize spgB a (kdN (idx (a : Int))) f p rd xs1 xs2 = zz at *
  generalize headN a rd = z1 at *
  generalize spV a f (p : Nat) rd (.slice A1 xs1.length c1) (.slice A2 xs2.length c2) = u at *
  go_enter Tryd.func15, Tryd.ntmps15
  go_wp2_with (first
    | (go_at_call 16
       (with_reducible refine C1.out.mono ?_)
       rintro e u1 ⟨rfl, hb1⟩
       have hb := HB.out.trans (hb1.mono HB.out.size)
       have HB1 := Lib.hid hb
       have H1 := H0.out.call hb1
       have HL := Lib.hid H1.lt
       have HX := Lib.hid (H1.past (.cells #[.slice none 0 0, .int .i64 0, .int .i8 0] 56))
       have q1 : (u1.alloc (.cells #[.slice none 0 0, .int .i64 0, .int .i8 0] 56)).cell? ⟨w.heap.size, 0, none⟩ = some (.int .i64 (a : Nat)) := HX.out.cell cA.out
       have q2 : (u1.alloc (.cells #[.slice none 0 0, .int .i64 0, .int .i8 0] 56)).cell? ⟨w.heap.size, 27, none⟩ = some (.bool rd) := HX.out.cell cF.out
       have WN := Lib.hid (Wt.new u1)
       have HWN := Lib.hid (show u1.heap.size ≤ (u1.alloc (.cells #[.slice none 0 0, .int .i64 0, .int .i8 0] 56)).heap.size by simp)
       have HBN := Lib.hid (hb.alloc hb.size (.cells #[.slice none 0 0, .int .i64 0, .int .i8 0] 56))
       clear hb1 hb H1)
    | (go_at_call 22
       (with_reducible refine (C2.out u1.heap.size u1.heap.size _ WN.out HWN.out).mono ?_)
       rintro e u2 ⟨rfl, k1, k2⟩
       have W2 := Lib.hid k1
       have H2 := Lib.hid (HX.out.below k2.below HL.out)
       have q3 := H2.out.load (T := 42) Tryd.underlying42 rfl (by kernel_rfl)
       have HS2 := Lib.hid (Nat.le_trans HWN.out k2.below.size)
       have HBa := Lib.hid (HBN.out.trans (k2.below.mono HB1.out.size))
       clear k1 k2)
    | (go_at_call 32
       (with_reducible refine (C3.out u1.heap.size u1.heap.size _ _ W2.out HS2.out (HT.out.below HBa.out (Nat.le_refl _)) (Nat.lt_of_lt_of_le HT.out.lt HB1.out.size) (fun h x e => Nat.lt_of_lt_of_le (HA1.out h x e) HB1.out.size) (fun h x e => Nat.lt_of_lt_of_le (HA2.out h x e) HB1.out.size) (HW1.out.below HBa.out (Nat.le_refl _)) (HW2.out.below HBa.out (Nat.le_refl _)) hlen).mono ?_)
       rintro e u3 ⟨rfl, k1, k2⟩
       have W3 := Lib.hid k1
       have HBb := Lib.hid (HBa.out.trans (k2.below.mono HB1.out.size))
       clear k1 k2)
    | (go_at_call 25
       (with_reducible refine (wbytes_any u1.heap.size u1.heap.size _ _ W3.out).mono ?_)
       rintro e u4 ⟨v, rfl, k1, m, rfl⟩
       have HR := Lib.hid (k1.mono (b' := w.heap.size) HB1.out.size)
       have HBc := Lib.hid (HBb.out.drewN m)
       clear k1))
  go_ret2
  obtain ⟨A', c', rfl, h3⟩ := HR.out.words
  rw [HE.out]
  exact ⟨A', c', rfl, HR.out, h3, HBc.out⟩
end
end Go.Proofs.YteiemboopkbdpaaDoor.Sn
end

section
namespace Go.Proofs.YteiemboopkbdpaaDoor.Sn
open Go.RowKit Rw Mk Cd L64 Al Ln
set_option linter.unusedVariables false
set_option linter.unusedSimpArgs false
theorem nameB_len (kd : Nat) (xs1 xs2 : List Nat) : (nameB kd xs1 xs2).length = if kd = 4 then (textN xs1).length + (textN xs2).length else 0 := by
  unfold nameB; split <;> simp
theorem spgB_len (a kd : Nat) (f : Nat → Nat) (p : Nat) (rd : Bool) (xs1 xs2 : List Nat) : (spgB a kd f p rd xs1 xs2).length = 207 + (nameB kd xs1 xs2).length := by
  simp only [spgB, headN, bytesN, List.length_append, List.length_cons, List.length_nil, List.length_map, List.length_range]; omega
def sizeN (kd sz : Nat) (xs1 xs2 : List Nat) : Nat := if nmOk kd xs1.length xs2.length then (if sz ≠ 0 then 22 + 8 * (sz / 16) + sz else if 2 ≤ kd then 207 + (nameB kd xs1 xs2).length else 0) else 0
theorem sz_kd (alg : Int) : (sz11 alg ≠ 0 ∧ kdN (idx alg) = 1) ∨ (sz11 alg = 0 ∧ kdN (idx alg) ≠ 1) := by
  rcases sz11_cases alg with ⟨hs, h'⟩ | ⟨hs, h'⟩ | ⟨hs, h'⟩
  · left; rw [hs]; rcases h' with rfl | rfl <;> exact ⟨by decide, rfl⟩
  · left; rw [hs]; rcases h' with rfl | rfl | rfl | rfl <;> exact ⟨by decide, rfl⟩
  · right
    refine ⟨hs, ?_⟩
    by_cases h0 : alg < 0
    · rw [idx_out (by omega)]; decide
    · by_cases h1 : 15 ≤ alg
      · rw [idx_out (by omega)]; decide
      · obtain ⟨a, rfl⟩ := Int.eq_ofNat_of_zero_le (show 0 ≤ alg by omega)
        rw [idx_nat (by omega)]
        match a, h1, h' with
        | 0, _, _ | 7, _, _ | 8, _, _ | 9, _, _ | 10, _, _ | 11, _, _ | 12, _, _ | 13, _, _ | 14, _, _ => decide
        | 1, _, h | 2, _, h | 3, _, h | 4, _, h | 5, _, h | 6, _, h => omega
        | n + 15, h, _ => omega
theorem right11_zero (alg : Int) : right11 alg (fun _ => 0) (numC 0 0) 0 = decide (sz11 alg ≠ 0) := by
  unfold right11 fitsB modC numC low32
  rcases sz11_cases alg with ⟨hs, -⟩ | ⟨hs, -⟩ | ⟨hs, -⟩ <;> rw [hs] <;> decide
theorem bk_pos {i : Nat} (h : 2 ≤ kdN i) : 0 < bkN i := by
  revert h
  match i with
  | 0 | 1 | 2 | 3 | 4 | 5 | 6 | 7 | 8 | 9 | 10 | 11 | 12 | 13 | 14 => decide
  | i + 15 => simp [kdN, kdL]
theorem right20_zero (alg : Int) (n1 n2 : Nat) (h : nmOk (kdN (idx alg)) n1 n2 = true) : right20 (kdN (idx alg)) (bkN (idx alg)) 0 false n1 n2 = decide (2 ≤ kdN (idx alg)) := by
  unfold right20 placeOk
  rw [h]
  by_cases h2 : 2 ≤ kdN (idx alg)
  · have := bk_pos h2
    simp [h2, this]
  · simp [h2]
theorem bsS (parts : Array (Nat × Value)) : Instr.build 42 parts = bsem 42 parts := rfl
theorem run_bsS (a : Int) (s1 s2 : Value) (W : World) : (bsem 42 #[(0, .int .i64 a), (4, .agg #[s1, s2])]).run Tryd.prog W = .ok (.agg (spV a (fun _ => 0) 0 false s1 s2)) W := run_build W 42 _ _ (by kernel_rfl)
section
attribute [local go_sem ↓] bsB bsS
attribute [local go_sem] run_bsB run_bsS
set_option maxRecDepth 100000 in
set_option maxHeartbeats 2000000 in
theorem size_core (alg : Int) (A1 : Option Addr) (n1 c1 : Nat) (A2 : Option Addr) (n2 c2 : Nat) (b1 b2 : Bool) (b3 : Bool) (y2 y3 : List Nat) (r : Nat) (w : World)
    (C1 : ∀ W, Below w.heap.size w W → Calls Tryd.prog 31 #[.int .i64 alg, .agg #[.slice A1 n1 c1, .slice A2 n2 c2]] W fun e w' => e = .returned (.bool b1) ∧ Below W.heap.size W w')
    (C2 : b1 = true → b2 = true → ∀ W, Below w.heap.size w W → Calls Tryd.prog 9 #[.agg (blkV alg (fun _ => 0) 0 0 (.slice none 0 0) false)] W fun e w' => ∃ A c, e = .returned (.tuple #[.slice A y2.length c, .int .i64 0]) ∧ Below W.heap.size W w')
    (C2' : b1 = true → b2 = false → ∀ W, Below w.heap.size w W → Calls Tryd.prog 9 #[.agg (blkV alg (fun _ => 0) 0 0 (.slice none 0 0) false)] W fun e w' => e = .returned (.tuple #[.slice none 0 0, .int .i64 1]) ∧ Below W.heap.size W w')
    (C3 : b1 = true → b2 = false → b3 = true → ∀ W, Below w.heap.size w W → Calls Tryd.prog 15 #[.agg (spV alg (fun _ => 0) 0 false (.slice A1 n1 c1) (.slice A2 n2 c2))] W fun e w' => ∃ A c, e = .returned (.tuple #[.slice A y3.length c, .int .i64 0]) ∧ Below W.heap.size W w')
    (C3' : b1 = true → b2 = false → b3 = false → ∀ W, Below w.heap.size w W → Calls Tryd.prog 15 #[.agg (spV alg (fun _ => 0) 0 false (.slice A1 n1 c1) (.slice A2 n2 c2))] W fun e w' => e = .returned (.tuple #[.slice none 0 0, .int .i64 1]) ∧ Below W.heap.size W w')
    (hr : r = if b1 then (if b2 then y2.length else if b3 then y3.length else 0) else 0) :
    Calls Tryd.prog 13 #[.int .i64 alg, .agg #[.slice A1 n1 c1, .slice A2 n2 c2]] w fun e w' => e = .returned (.int .i64 (r : Nat)) ∧ Below w.heap.size w w' := by
  have hb0 : Below w.heap.size w (w.alloc (.cells #[.slice A1 n1 c1, .slice A2 n2 c2] 38)) := (Below.refl _ w).alloc (Nat.le_refl _) _
  have H0 := Lib.hid (Hold.new w #[.slice A1 n1 c1, .slice A2 n2 c2] 38 2 rfl)
  have HB := Lib.hid hb0
  have C1 := Lib.hid C1
  clear hb0
  cases b1 with
  | false =>
    obtain rfl : r = 0 := hr
    clear C2 C2' C3 C3'
    go_enter Tryd.func13, Tryd.ntmps13
    go_wp2_with (first
      | (go_at_call 31
         (with_reducible refine (C1.out _ HB.out).mono ?_)
         rintro e u1 ⟨rfl, hb⟩
         replace HB := Lib.hid (HB.out.trans (hb.mono HB.out.size))
         replace H0 := Lib.hid (H0.out.call hb)
         clear hb)
      | (go_at_call 9
         (with_reducible refine (D2.out _ HB.out).mono ?_)
         rintro e u2 ⟨A, c, rfl, hb⟩
         replace HB := Lib.hid (HB.out.trans (hb.mono HB.out.size))
         clear hb)
      | (go_at_call 9
         (with_reducible refine (D2'.out _ HB.out).mono ?_)
         rintro e u2 ⟨rfl, hb⟩
         replace HB := Lib.hid (HB.out.trans (hb.mono HB.out.size))
         replace H0 := Lib.hid (H0.out.call hb)
         have p1 : u2.cell? ⟨w.heap.size, 0, none⟩ = some (.slice A1 n1 c1) := H0.out.cell rfl
         have p2 : u2.cell? ⟨w.heap.size, 1, none⟩ = some (.slice A2 n2 c2) := H0.out.cell rfl
         clear hb)
      | (go_at_call 15
         (with_reducible refine (D3.out _ HB.out).mono ?_)
         rintro e u3 ⟨A, c, rfl, hb⟩
         replace HB := Lib.hid (HB.out.trans (hb.mono HB.out.size))
         clear hb)
      | (go_at_call 15
         (with_reducible refine (D3'.out _ HB.out).mono ?_)
         rintro e u3 ⟨rfl, hb⟩
         replace HB := Lib.hid (HB.out.trans (hb.mono HB.out.size))
         clear hb))
    go_ret
    exact ⟨rfl, HB.out⟩
  | true =>
    cases b2 with
    | true =>
      have D2 := Lib.hid (C2 rfl rfl)
      obtain rfl : r = y2.length := hr
      clear C2 C2' C3 C3'
      go_enter Tryd.func13, Tryd.ntmps13
      go_wp2_with (first
        | (go_at_call 31
           (with_reducible refine (C1.out _ HB.out).mono ?_)
           rintro e u1 ⟨rfl, hb⟩
           replace HB := Lib.hid (HB.out.trans (hb.mono HB.out.size))
           replace H0 := Lib.hid (H0.out.call hb)
           clear hb)
        | (go_at_call 9
           (with_reducible refine (D2.out _ HB.out).mono ?_)
           rintro e u2 ⟨A, c, rfl, hb⟩
           replace HB := Lib.hid (HB.out.trans (hb.mono HB.out.size))
           clear hb)
        | (go_at_call 9
           (with_reducible refine (D2'.out _ HB.out).mono ?_)
           rintro e u2 ⟨rfl, hb⟩
           replace HB := Lib.hid (HB.out.trans (hb.mono HB.out.size))
           replace H0 := Lib.hid (H0.out.call hb)
           have p1 : u2.cell? ⟨w.heap.size, 0, none⟩ = some (.slice A1 n1 c1) := H0.out.cell rfl
           have p2 : u2.cell? ⟨w.heap.size, 1, none⟩ = some (.slice A2 n2 c2) := H0.out.cell rfl
           clear hb)
        | (go_at_call 15
           (with_reducible refine (D3.out _ HB.out).mono ?_)
           rintro e u3 ⟨A, c, rfl, hb⟩
           replace HB := Lib.hid (HB.out.trans (hb.mono HB.out.size))
           clear hb)
        | (go_at_call 15
           (with_reducible refine (D3'.out _ HB.out).mono ?_)
           rintro e u3 ⟨rfl, hb⟩
           replace HB := Lib.hid (HB.out.trans (hb.mono HB.out.size))
           clear hb))
      go_ret
      exact ⟨rfl, HB.out⟩
    | false =>
      have D2' := Lib.hid (C2' rfl rfl)
      clear C2 C2'
      cases b3 with
      | true =>
        have D3 := Lib.hid (C3 rfl rfl rfl)
        obtain rfl : r = y3.length := hr
        clear C3 C3'
        go_enter Tryd.func13, Tryd.ntmps13
        go_wp2_with (first
          | (go_at_call 31
             (with_reducible refine (C1.out _ HB.out).mono ?_)
             rintro e u1 ⟨rfl, hb⟩
             replace HB := Lib.hid (HB.out.trans (hb.mono HB.out.size))
             replace H0 := Lib.hid (H0.out.call hb)
             clear hb)
          | (go_at_call 9
             (with_reducible refine (D2.out _ HB.out).mono ?_)
             rintro e u2 ⟨A, c, rfl, hb⟩
             replace HB := Lib.hid (HB.out.trans (hb.mono HB.out.size))
             clear hb)
          | (go_at_call 9
             (with_reducible refine (D2'.out _ HB.out).mono ?_)
             rintro e u2 ⟨rfl, hb⟩
             replace HB := Lib.hid (HB.out.trans (hb.mono HB.out.size))
             replace H0 := Lib.hid (H0.out.call hb)
             have p1 : u2.cell? ⟨w.heap.size, 0, none⟩ = some (.slice A1 n1 c1) := H0.out.cell rfl
             have p2 : u2.cell? ⟨w.heap.size, 1, none⟩ = some (.slice A2 n2 c2) := H0.out.cell rfl
             clear hb)
          | (go_at_call 15
             (with_reducible refine (D3.out _ HB.out).mono ?_)
             rintro e u3 ⟨A, c, rfl, hb⟩
             replace HB := Lib.hid (HB.out.trans (hb.mono HB.out.size))
             clear hb)
          | (go_at_call 15
             (with_reducible refine (D3'.out _ HB.out).mono ?_)
             rintro e u3 ⟨rfl, hb⟩
             replace HB := Lib.hid (HB.out.trans (hb.mono HB.out.size))
             clear hb))
        go_ret
        exact ⟨rfl, HB.out⟩
      | false =>
        have D3' := Lib.hid (C3' rfl rfl rfl)
        obtain rfl : r = 0 := hr
        clear C3 C3'
        go_enter Tryd.func13, Tryd.ntmps13
        go_wp2_with (first
          | (go_at_call 31
             (with_reducible refine (C1.out _ HB.out).mono ?_)
             rintro e u1 ⟨rfl, hb⟩
             replace HB := Lib.hid (HB.out.trans (hb.mono HB.out.size))
             replace H0 := Lib.hid (H0.out.call hb)
             clear hb)
          | (go_at_call 9
             (with_reducible refine (D2.out _ HB.out).mono ?_)
             rintro e u2 ⟨A, c, rfl, hb⟩
             replace HB := Lib.hid (HB.out.trans (hb.mono HB.out.size))
             clear hb)
          | (go_at_call 9
             (with_reducible refine (D2'.out _ HB.out).mono ?_)
             rintro e u2 ⟨rfl, hb⟩
             replace HB := Lib.hid (HB.out.trans (hb.mono HB.out.size))
             replace H0 := Lib.hid (H0.out.call hb)
             have p1 : u2.cell? ⟨w.heap.size, 0, none⟩ = some (.slice A1 n1 c1) := H0.out.cell rfl
             have p2 : u2.cell? ⟨w.heap.size, 1, none⟩ = some (.slice A2 n2 c2) := H0.out.cell rfl
             clear hb)
          | (go_at_call 15
             (with_reducible refine (D3.out _ HB.out).mono ?_)
             rintro e u3 ⟨A, c, rfl, hb⟩
             replace HB := Lib.hid (HB.out.trans (hb.mono HB.out.size))
             clear hb)
          | (go_at_call 15
             (with_reducible refine (D3'.out _ HB.out).mono ?_)
             rintro e u3 ⟨rfl, hb⟩
             replace HB := Lib.hid (HB.out.trans (hb.mono HB.out.size))
             clear hb))
        go_ret
        exact ⟨rfl, HB.out⟩
end
theorem size_any (alg : Int) (A1 : Option Addr) (c1 : Nat) (xs1 : List Nat) (A2 : Option Addr) (c2 : Nat) (xs2 : List Nat) (hx1 : AllLt 256 xs1) (hx2 : AllLt 256 xs2) (w : World) (hT : ATab w) (h1 : Words .u8 w A1 xs1) (h2 : Words .u8 w A2 xs2) :
    Calls Tryd.prog 13 #[.int .i64 alg, .agg #[.slice A1 xs1.length c1, .slice A2 xs2.length c2]] w fun e w' => e = .returned (.int .i64 (sizeN (kdN (idx alg)) (sz11 alg) xs1 xs2 : Nat)) ∧ Below w.heap.size w w' := by
  refine size_core alg A1 xs1.length c1 A2 xs2.length c2 (nmOk (kdN (idx alg)) xs1.length xs2.length) (decide (sz11 alg ≠ 0)) (decide (2 ≤ kdN (idx alg)))
    (blkB alg.toNat (sz11 alg) (fun _ => 0) 0 0 [] false) (spgB alg.toNat (kdN (idx alg)) (fun _ => 0) 0 false xs1 xs2) _ w
    (fun W hb => hasName_any alg A1 c1 xs1 A2 c2 xs2 hx1 hx2 W (hT.below hb (Nat.le_refl _)) (h1.below hb (Nat.le_refl _)) (h2.below hb (Nat.le_refl _)))
    (fun _ e2 W hb => ?_) (fun _ e2 W hb => ?_) (fun e1 _ e3 W hb => ?_) (fun e1 _ e3 W hb => ?_) ?_
  · have hr := (right11_zero alg).trans e2
    obtain ⟨a, rfl, -, -, -, -⟩ := right11_spec hr
    refine (snapBlock_yes a (fun _ => 0) (fun _ => by omega) 0 0 (by omega) (by omega) none 0 [] false W hr (hT.below hb (Nat.le_refl _)) (fun i hi => by cases hi)).mono ?_
    rintro e w' ⟨A, c, rfl, -, -, k⟩
    exact ⟨A, c, rfl, k⟩
  · exact snapBlock_no alg (fun _ => 0) (fun _ => by omega) 0 0 (by omega) (by omega) none 0 0 false W ((right11_zero alg).trans e2)
  · have hr := (right20_zero alg _ _ e1).trans e3
    obtain ⟨a, rfl, -, -⟩ := idx_sponge (of_decide_eq_true e3)
    refine (snapSponge_yes a (fun _ => 0) (fun _ => by omega) 0 false A1 c1 xs1 A2 c2 xs2 hx1 hx2 W (hT.below hb (Nat.le_refl _)) (h1.below hb (Nat.le_refl _)) (h2.below hb (Nat.le_refl _)) hr).mono ?_
    rintro e w' ⟨A, c, rfl, -, -, k⟩
    exact ⟨A, c, rfl, k⟩
  · exact snapSponge_no alg (fun _ => 0) 0 false A1 c1 xs1 A2 c2 xs2 hx1 hx2 W (hT.below hb (Nat.le_refl _)) (h1.below hb (Nat.le_refl _)) (h2.below hb (Nat.le_refl _)) ((right20_zero alg _ _ e1).trans e3)
  · rw [blkB_length _ (by simp), spgB_len]
    unfold sizeN
    by_cases hs : sz11 alg = 0 <;> by_cases hk : 2 ≤ kdN (idx alg) <;> simp [hs, hk]
end Go.Proofs.YteiemboopkbdpaaDoor.Sn
end

section
namespace Go.Proofs.YteiemboopkbdpaaDoor.Sn
open Go.RowKit Rw Mk Cd L64 Al
set_option linter.unusedVariables false
set_option linter.unusedSimpArgs false
section
attribute [local go_sem ↓] loadSp
set_option maxRecDepth 100000 in
set_option maxHeartbeats 4000000 in
theorem refRightS_core (alg p : Int) (rd : Bool) (kd bk : Nat) (u : Array Value) (A1 : Option Addr) (n1 c1 : Nat) (A2 : Option Addr) (n2 c2 : Nat) (b1 b2 b3 b4 b5 b6 b7 b8 : Bool) (w : World) (husz : u.size = 30)
    (k0 : u[0]? = some (.int .i64 alg)) (k26 : u[26]? = some (.int .i64 p)) (k27 : u[27]? = some (.bool rd)) (k28 : u[28]? = some (.slice A1 n1 c1)) (k29 : u[29]? = some (.slice A2 n2 c2))
    (e1 : decide ((kd : Int) < 2) = b1) (e2 : decide (p < 0) = b2) (e3 : decide ((bk : Int) < p) = b3) (e4 : (p == (bk : Int)) = b4) (e5 : ((kd : Int) == 2) = b5) (e6 : ((kd : Int) == 4) = b6)
    (C1 : ∀ W, Calls Tryd.prog 36 #[.int .i64 alg] W fun e w' => e = .returned (.int .i64 (kd : Nat)) ∧ W = w')
    (C2 : ∀ W, Calls Tryd.prog 37 #[.int .i64 alg] W fun e w' => e = .returned (.int .i64 (bk : Nat)) ∧ W = w')
    (C3 : ∀ W, Calls Tryd.prog 38 #[.agg #[.slice A1 n1 c1, .slice A2 n2 c2]] W fun e w' => e = .returned (.bool b7) ∧ Below W.heap.size W w')
    (C4 : ∀ W, Calls Tryd.prog 39 #[.agg #[.slice A1 n1 c1, .slice A2 n2 c2]] W fun e w' => e = .returned (.bool b8) ∧ Below W.heap.size W w') :
    Calls Tryd.prog 17 #[.agg u] w fun e w' => e = .returned (.bool (!(b1 || b2 || b3 || (b4 && !rd) || (rd && b5)) && (b7 && (b6 || b8)))) ∧ Below w.heap.size w w' := by
  have hb0 : Below w.heap.size w (w.alloc (.cells u 42)) := (Below.refl _ w).alloc (Nat.le_refl _) _
  have hh := Hold.new w u 42 30 husz
  have HB := Lib.hid (below_drew hb0)
  have D1 := Lib.hid C1
  have D2 := Lib.hid C2
  have D3 := Lib.hid C3
  have D4 := Lib.hid C4
  have K28 := Lib.hid k28
  have K29 := Lib.hid k29
  have hhd := hh.drew
  obtain ⟨U, hU⟩ : ∃ U, U = (w.alloc (.cells u 42)).drew := ⟨_, rfl⟩
  rw [← hU] at hhd HB
  have H0 := Lib.hid hhd
  have q0 : U.cell? ⟨w.heap.size, 0, none⟩ = some (.int .i64 alg) := hhd.cell k0
  have q1 : U.cell? ⟨w.heap.size, 26, none⟩ = some (.int .i64 p) := hhd.cell k26
  have q2 : U.cell? ⟨w.heap.size, 27, none⟩ = some (.bool rd) := hhd.cell k27
  have q3 : U.cell? ⟨w.heap.size, 28, none⟩ = some (.slice A1 n1 c1) := hhd.cell k28
  have q4 : U.cell? ⟨w.heap.size, 29, none⟩ = some (.slice A2 n2 c2) := hhd.cell k29
  have HU := Lib.hid hU.symm
  clear hb0 hh husz k0 k26 k27 k28 k29 hhd hU C1 C2 C3 C4
  go_enter Tryd.func17, Tryd.ntmps17
  go_wp2_with fail
  refine still_all (by kernel_rfl) (by kernel_rfl) U HU.out ?_
  repeat (first | still_step | (still_call (still_of (D1.out _))) | (still_call (still_of (D2.out _))))
  refine wpStill_nil ?_
  cases b1 with
  | false =>
    cases b2 with
    | false =>
      cases b3 with
      | false =>
        cases b4 with
        | false =>
          cases rd with
          | false =>
            cases b7 with
            | false =>
              go_wp2_with (first
                | (go_at_call 38
                   (with_reducible refine (D3.out _).mono ?_)
                   rintro e u1 ⟨rfl, hb⟩
                   have HB1 := Lib.hid (HB.out.trans (hb.mono HB.out.size))
                   have H1 := Lib.hid (H0.out.call hb)
                   have p3 : u1.cell? ⟨w.heap.size, 28, none⟩ = some (.slice A1 n1 c1) := H1.out.cell K28.out
                   have p4 : u1.cell? ⟨w.heap.size, 29, none⟩ = some (.slice A2 n2 c2) := H1.out.cell K29.out
                   clear hb q0 q1 q2 q3 q4)
                | (go_at_call 39
                   (with_reducible refine (D4.out _).mono ?_)
                   rintro e u2 ⟨rfl, hb⟩
                   replace HB1 := Lib.hid (HB1.out.trans (hb.mono HB1.out.size))
                   clear hb))
              go_ret
              refine ⟨?_, HB1.out⟩
              simp
            | true =>
              cases b6 with
              | false =>
                go_wp2_with (first
                  | (go_at_call 38
                     (with_reducible refine (D3.out _).mono ?_)
                     rintro e u1 ⟨rfl, hb⟩
                     have HB1 := Lib.hid (HB.out.trans (hb.mono HB.out.size))
                     have H1 := Lib.hid (H0.out.call hb)
                     have p3 : u1.cell? ⟨w.heap.size, 28, none⟩ = some (.slice A1 n1 c1) := H1.out.cell K28.out
                     have p4 : u1.cell? ⟨w.heap.size, 29, none⟩ = some (.slice A2 n2 c2) := H1.out.cell K29.out
                     clear hb q0 q1 q2 q3 q4)
                  | (go_at_call 39
                     (with_reducible refine (D4.out _).mono ?_)
                     rintro e u2 ⟨rfl, hb⟩
                     replace HB1 := Lib.hid (HB1.out.trans (hb.mono HB1.out.size))
                     clear hb))
                go_ret
                refine ⟨?_, HB1.out⟩
                simp
              | true =>
                go_wp2_with (first
                  | (go_at_call 38
                     (with_reducible refine (D3.out _).mono ?_)
                     rintro e u1 ⟨rfl, hb⟩
                     have HB1 := Lib.hid (HB.out.trans (hb.mono HB.out.size))
                     have H1 := Lib.hid (H0.out.call hb)
                     have p3 : u1.cell? ⟨w.heap.size, 28, none⟩ = some (.slice A1 n1 c1) := H1.out.cell K28.out
                     have p4 : u1.cell? ⟨w.heap.size, 29, none⟩ = some (.slice A2 n2 c2) := H1.out.cell K29.out
                     clear hb q0 q1 q2 q3 q4)
                  | (go_at_call 39
                     (with_reducible refine (D4.out _).mono ?_)
                     rintro e u2 ⟨rfl, hb⟩
                     replace HB1 := Lib.hid (HB1.out.trans (hb.mono HB1.out.size))
                     clear hb))
                go_ret
                refine ⟨?_, HB1.out⟩
                simp
          | true =>
            cases b5 with
            | false =>
              cases b7 with
              | false =>
                go_wp2_with (first
                  | (go_at_call 38
                     (with_reducible refine (D3.out _).mono ?_)
                     rintro e u1 ⟨rfl, hb⟩
                     have HB1 := Lib.hid (HB.out.trans (hb.mono HB.out.size))
                     have H1 := Lib.hid (H0.out.call hb)
                     have p3 : u1.cell? ⟨w.heap.size, 28, none⟩ = some (.slice A1 n1 c1) := H1.out.cell K28.out
                     have p4 : u1.cell? ⟨w.heap.size, 29, none⟩ = some (.slice A2 n2 c2) := H1.out.cell K29.out
                     clear hb q0 q1 q2 q3 q4)
                  | (go_at_call 39
                     (with_reducible refine (D4.out _).mono ?_)
                     rintro e u2 ⟨rfl, hb⟩
                     replace HB1 := Lib.hid (HB1.out.trans (hb.mono HB1.out.size))
                     clear hb))
                go_ret
                refine ⟨?_, HB1.out⟩
                simp
              | true =>
                cases b6 with
                | false =>
                  go_wp2_with (first
                    | (go_at_call 38
                       (with_reducible refine (D3.out _).mono ?_)
                       rintro e u1 ⟨rfl, hb⟩
                       have HB1 := Lib.hid (HB.out.trans (hb.mono HB.out.size))
                       have H1 := Lib.hid (H0.out.call hb)
                       have p3 : u1.cell? ⟨w.heap.size, 28, none⟩ = some (.slice A1 n1 c1) := H1.out.cell K28.out
                       have p4 : u1.cell? ⟨w.heap.size, 29, none⟩ = some (.slice A2 n2 c2) := H1.out.cell K29.out
                       clear hb q0 q1 q2 q3 q4)
                    | (go_at_call 39
                       (with_reducible refine (D4.out _).mono ?_)
                       rintro e u2 ⟨rfl, hb⟩
                       replace HB1 := Lib.hid (HB1.out.trans (hb.mono HB1.out.size))
                       clear hb))
                  go_ret
                  refine ⟨?_, HB1.out⟩
                  simp
                | true =>
                  go_wp2_with (first
                    | (go_at_call 38
                       (with_reducible refine (D3.out _).mono ?_)
                       rintro e u1 ⟨rfl, hb⟩
                       have HB1 := Lib.hid (HB.out.trans (hb.mono HB.out.size))
                       have H1 := Lib.hid (H0.out.call hb)
                       have p3 : u1.cell? ⟨w.heap.size, 28, none⟩ = some (.slice A1 n1 c1) := H1.out.cell K28.out
                       have p4 : u1.cell? ⟨w.heap.size, 29, none⟩ = some (.slice A2 n2 c2) := H1.out.cell K29.out
                       clear hb q0 q1 q2 q3 q4)
                    | (go_at_call 39
                       (with_reducible refine (D4.out _).mono ?_)
                       rintro e u2 ⟨rfl, hb⟩
                       replace HB1 := Lib.hid (HB1.out.trans (hb.mono HB1.out.size))
                       clear hb))
                  go_ret
                  refine ⟨?_, HB1.out⟩
                  simp
            | true =>
              go_wp2_with (first
                | (go_at_call 38
                   (with_reducible refine (D3.out _).mono ?_)
                   rintro e u1 ⟨rfl, hb⟩
                   have HB1 := Lib.hid (HB.out.trans (hb.mono HB.out.size))
                   have H1 := Lib.hid (H0.out.call hb)
                   have p3 : u1.cell? ⟨w.heap.size, 28, none⟩ = some (.slice A1 n1 c1) := H1.out.cell K28.out
                   have p4 : u1.cell? ⟨w.heap.size, 29, none⟩ = some (.slice A2 n2 c2) := H1.out.cell K29.out
                   clear hb q0 q1 q2 q3 q4)
                | (go_at_call 39
                   (with_reducible refine (D4.out _).mono ?_)
                   rintro e u2 ⟨rfl, hb⟩
                   replace HB1 := Lib.hid (HB1.out.trans (hb.mono HB1.out.size))
                   clear hb))
              go_ret
              refine ⟨?_, HB.out⟩
              simp
        | true =>
          cases rd with
          | false =>
            go_wp2_with (first
              | (go_at_call 38
                 (with_reducible refine (D3.out _).mono ?_)
                 rintro e u1 ⟨rfl, hb⟩
                 have HB1 := Lib.hid (HB.out.trans (hb.mono HB.out.size))
                 have H1 := Lib.hid (H0.out.call hb)
                 have p3 : u1.cell? ⟨w.heap.size, 28, none⟩ = some (.slice A1 n1 c1) := H1.out.cell K28.out
                 have p4 : u1.cell? ⟨w.heap.size, 29, none⟩ = some (.slice A2 n2 c2) := H1.out.cell K29.out
                 clear hb q0 q1 q2 q3 q4)
              | (go_at_call 39
                 (with_reducible refine (D4.out _).mono ?_)
                 rintro e u2 ⟨rfl, hb⟩
                 replace HB1 := Lib.hid (HB1.out.trans (hb.mono HB1.out.size))
                 clear hb))
            go_ret
            refine ⟨?_, HB.out⟩
            simp
          | true =>
            cases b5 with
            | false =>
              cases b7 with
              | false =>
                go_wp2_with (first
                  | (go_at_call 38
                     (with_reducible refine (D3.out _).mono ?_)
                     rintro e u1 ⟨rfl, hb⟩
                     have HB1 := Lib.hid (HB.out.trans (hb.mono HB.out.size))
                     have H1 := Lib.hid (H0.out.call hb)
                     have p3 : u1.cell? ⟨w.heap.size, 28, none⟩ = some (.slice A1 n1 c1) := H1.out.cell K28.out
                     have p4 : u1.cell? ⟨w.heap.size, 29, none⟩ = some (.slice A2 n2 c2) := H1.out.cell K29.out
                     clear hb q0 q1 q2 q3 q4)
                  | (go_at_call 39
                     (with_reducible refine (D4.out _).mono ?_)
                     rintro e u2 ⟨rfl, hb⟩
                     replace HB1 := Lib.hid (HB1.out.trans (hb.mono HB1.out.size))
                     clear hb))
                go_ret
                refine ⟨?_, HB1.out⟩
                simp
              | true =>
                cases b6 with
                | false =>
                  go_wp2_with (first
                    | (go_at_call 38
                       (with_reducible refine (D3.out _).mono ?_)
                       rintro e u1 ⟨rfl, hb⟩
                       have HB1 := Lib.hid (HB.out.trans (hb.mono HB.out.size))
                       have H1 := Lib.hid (H0.out.call hb)
                       have p3 : u1.cell? ⟨w.heap.size, 28, none⟩ = some (.slice A1 n1 c1) := H1.out.cell K28.out
                       have p4 : u1.cell? ⟨w.heap.size, 29, none⟩ = some (.slice A2 n2 c2) := H1.out.cell K29.out
                       clear hb q0 q1 q2 q3 q4)
                    | (go_at_call 39
                       (with_reducible refine (D4.out _).mono ?_)
                       rintro e u2 ⟨rfl, hb⟩
                       replace HB1 := Lib.hid (HB1.out.trans (hb.mono HB1.out.size))
                       clear hb))
                  go_ret
                  refine ⟨?_, HB1.out⟩
                  simp
                | true =>
                  go_wp2_with (first
                    | (go_at_call 38
                       (with_reducible refine (D3.out _).mono ?_)
                       rintro e u1 ⟨rfl, hb⟩
                       have HB1 := Lib.hid (HB.out.trans (hb.mono HB.out.size))
                       have H1 := Lib.hid (H0.out.call hb)
                       have p3 : u1.cell? ⟨w.heap.size, 28, none⟩ = some (.slice A1 n1 c1) := H1.out.cell K28.out
                       have p4 : u1.cell? ⟨w.heap.size, 29, none⟩ = some (.slice A2 n2 c2) := H1.out.cell K29.out
                       clear hb q0 q1 q2 q3 q4)
                    | (go_at_call 39
                       (with_reducible refine (D4.out _).mono ?_)
                       rintro e u2 ⟨rfl, hb⟩
                       replace HB1 := Lib.hid (HB1.out.trans (hb.mono HB1.out.size))
                       clear hb))
                  go_ret
                  refine ⟨?_, HB1.out⟩
                  simp
            | true =>
              go_wp2_with (first
                | (go_at_call 38
                   (with_reducible refine (D3.out _).mono ?_)
                   rintro e u1 ⟨rfl, hb⟩
                   have HB1 := Lib.hid (HB.out.trans (hb.mono HB.out.size))
                   have H1 := Lib.hid (H0.out.call hb)
                   have p3 : u1.cell? ⟨w.heap.size, 28, none⟩ = some (.slice A1 n1 c1) := H1.out.cell K28.out
                   have p4 : u1.cell? ⟨w.heap.size, 29, none⟩ = some (.slice A2 n2 c2) := H1.out.cell K29.out
                   clear hb q0 q1 q2 q3 q4)
                | (go_at_call 39
                   (with_reducible refine (D4.out _).mono ?_)
                   rintro e u2 ⟨rfl, hb⟩
                   replace HB1 := Lib.hid (HB1.out.trans (hb.mono HB1.out.size))
                   clear hb))
              go_ret
              refine ⟨?_, HB.out⟩
              simp
      | true =>
        go_wp2_with (first
          | (go_at_call 38
             (with_reducible refine (D3.out _).mono ?_)
             rintro e u1 ⟨rfl, hb⟩
             have HB1 := Lib.hid (HB.out.trans (hb.mono HB.out.size))
             have H1 := Lib.hid (H0.out.call hb)
             have p3 : u1.cell? ⟨w.heap.size, 28, none⟩ = some (.slice A1 n1 c1) := H1.out.cell K28.out
             have p4 : u1.cell? ⟨w.heap.size, 29, none⟩ = some (.slice A2 n2 c2) := H1.out.cell K29.out
             clear hb q0 q1 q2 q3 q4)
          | (go_at_call 39
             (with_reducible refine (D4.out _).mono ?_)
             rintro e u2 ⟨rfl, hb⟩
             replace HB1 := Lib.hid (HB1.out.trans (hb.mono HB1.out.size))
             clear hb))
        go_ret
        refine ⟨?_, HB.out⟩
        simp
    | true =>
      go_wp2_with (first
        | (go_at_call 38
           (with_reducible refine (D3.out _).mono ?_)
           rintro e u1 ⟨rfl, hb⟩
           have HB1 := Lib.hid (HB.out.trans (hb.mono HB.out.size))
           have H1 := Lib.hid (H0.out.call hb)
           have p3 : u1.cell? ⟨w.heap.size, 28, none⟩ = some (.slice A1 n1 c1) := H1.out.cell K28.out
           have p4 : u1.cell? ⟨w.heap.size, 29, none⟩ = some (.slice A2 n2 c2) := H1.out.cell K29.out
           clear hb q0 q1 q2 q3 q4)
        | (go_at_call 39
           (with_reducible refine (D4.out _).mono ?_)
           rintro e u2 ⟨rfl, hb⟩
           replace HB1 := Lib.hid (HB1.out.trans (hb.mono HB1.out.size))
           clear hb))
      go_ret
      refine ⟨?_, HB.out⟩
      simp
  | true =>
    go_wp2_with (first
      | (go_at_call 38
         (with_reducible refine (D3.out _).mono ?_)
         rintro e u1 ⟨rfl, hb⟩
         have HB1 := Lib.hid (HB.out.trans (hb.mono HB.out.size))
         have H1 := Lib.hid (H0.out.call hb)
         have p3 : u1.cell? ⟨w.heap.size, 28, none⟩ = some (.slice A1 n1 c1) := H1.out.cell K28.out
         have p4 : u1.cell? ⟨w.heap.size, 29, none⟩ = some (.slice A2 n2 c2) := H1.out.cell K29.out
         clear hb q0 q1 q2 q3 q4)
      | (go_at_call 39
         (with_reducible refine (D4.out _).mono ?_)
         rintro e u2 ⟨rfl, hb⟩
         replace HB1 := Lib.hid (HB1.out.trans (hb.mono HB1.out.size))
         clear hb))
    go_ret
    refine ⟨?_, HB.out⟩
    simp
end
theorem refRight20_any (alg : Int) (f : Nat → Nat) (p : Int) (rd : Bool) (A1 : Option Addr) (n1 c1 : Nat) (A2 : Option Addr) (n2 c2 : Nat) (w : World) (h1 : n1 ≤ 1000000) (h2 : n2 ≤ 1000000) :
    Calls Tryd.prog 17 #[.agg (spV alg f p rd (.slice A1 n1 c1) (.slice A2 n2 c2))] w fun e w' => e = .returned (.bool (right20 (kdN (idx alg)) (bkN (idx alg)) p rd n1 n2)) ∧ Below w.heap.size w w' := by
  have hle := kdN_le (idx alg)
  have key : right20 (kdN (idx alg)) (bkN (idx alg)) p rd n1 n2 = (!(decide ((kdN (idx alg) : Int) < 2) || decide (p < 0) || decide ((bkN (idx alg) : Int) < p) || ((p == (bkN (idx alg) : Int)) && !rd) || (rd && ((kdN (idx alg) : Int) == 2))) && ((decide (n1 ≤ 1000) && decide (n2 ≤ 1000)) && (((kdN (idx alg) : Int) == 4) || (decide (n1 = 0) && decide (n2 = 0))))) := by
    generalize kdN (idx alg) = kd at *
    generalize bkN (idx alg) = bk at *
    unfold right20 placeOk nmOk
    rw [Bool.eq_iff_iff]
    by_cases h4 : kd = 4
    · subst h4
      cases rd <;> simp <;> omega
    · rw [if_neg h4]
      cases rd <;> simp <;> omega
  rw [key]
  exact refRightS_core alg p rd _ _ _ A1 n1 c1 A2 n2 c2 _ _ _ _ _ _ _ _ w spV_size spV_0 spV_26 spV_27 spV_28 spV_29 rfl rfl rfl rfl rfl rfl
    (fun W => refKind_any alg W) (fun W => refBlock_any alg W) (fun W => refRight17_any A1 n1 c1 A2 n2 c2 W) (fun W => refEmpty_any A1 n1 c1 A2 n2 c2 h1 h2 W)
end Go.Proofs.YteiemboopkbdpaaDoor.Sn
end

section
namespace Go.Proofs.YteiemboopkbdpaaDoor.Sn
open Go.RowKit Rw Mk Cd L64 Al
set_option linter.unusedVariables false
set_option linter.unusedSimpArgs false
structure AC (W1 : World) (v : Value) (ys : List Nat) (W : World) : Prop where
  below : Below W1.heap.size W1 W
  row : Row .u8 5 W1.heap.size W v ys
theorem AC.size {W1 W : World} {v : Value} {ys : List Nat} (h : AC W1 v ys W) : W1.heap.size ≤ W.heap.size := h.below.size
theorem AC.call {W1 W W' : World} {v : Value} {ys : List Nat} (h : AC W1 v ys W) (hb : Below W.heap.size W W') : AC W1 v ys W' := ⟨h.below.trans (hb.mono h.size), h.row.below hb (Nat.le_refl _)⟩
theorem AC.app {W1 W W' : World} {v v' : Value} {ys zs : List Nat} (h : AC W1 v ys W) (hr : Row .u8 5 W1.heap.size W' v' zs) (hg : W.grownBy W' v.ownBlock) : AC W1 v' zs W' := ⟨Row.grown0 h.row h.below h.size hg, hr⟩
theorem AC.of_gives {W1 W W' : World} {v : Value} {ys : List Nat} (hb0 : Below W1.heap.size W1 W) (hr : Row .u8 5 W.heap.size W' v ys) (hb : Below W.heap.size W W') : AC W1 v ys W' := ⟨hb0.trans (hb.mono hb0.size), hr.mono hb0.size⟩
theorem row_new (w : World) (xs : List Nat) (n : Nat) (hn : xs.length = n) (hm : n ≤ maxLen) {c : Array Value} (h : c = (cellsOf .u8 xs).toArray) {base : Nat} (hb : base ≤ w.heap.size) : Row .u8 5 base (w.alloc (.cells c 5)) (.slice (some ⟨w.heap.size, 0, none⟩) n n) xs := by
  subst hn; subst h
  exact ⟨by rw [cellsOf_length, Nat.mul_one], .inr ⟨w.heap.size, xs.length, _, rfl, hb, heap_alloc_new w _, Nat.le_refl _, hm, by simp [cellsOf_length], by simp [cellsOf_length, List.take_of_length_le]⟩⟩
set_option maxRecDepth 20000 in
theorem refHead_any (a : Nat) (ha : a < 256) (fl : Bool) (w : World) : Calls Tryd.prog 29 #[.int .i64 (a : Nat), .bool fl] w (Gives .u8 5 (headN a fl) w) := by
  have hwr : IntKind.u8.wrap (a : Int) = (a : Int) := by rw [IntKind.wrap_u8]; omega
  have hwr2 : (a : Int) % 256 = (a : Int) := by omega
  have HR : ∀ y : Nat, Hid (Row .u8 5 w.heap.size (w.alloc (.cells #[.int .u8 67, .int .u8 82, .int .u8 66, .int .u8 49, .int .u8 (a : Nat), .int .u8 (y : Nat)] 5)) (.slice (some ⟨w.heap.size, 0, none⟩) 6 6) [67, 82, 66, 49, a, y]) := fun y => row_new w _ 6 rfl (by unfold maxLen; omega) rfl (Nat.le_refl _)
  have HB := Lib.hid (fun o => (Below.refl w.heap.size w).alloc (Nat.le_refl _) o)
  cases fl
  · have H0 := HR 0
    clear HR
    go_enter Tryd.func29, Tryd.ntmps29
    go_wp2
    go_ret
    exact Gives.mk H0.out (HB.out _)
  · have H0 := HR 1
    clear HR
    go_enter Tryd.func29, Tryd.ntmps29
    go_wp2
    go_ret
    exact Gives.mk H0.out (HB.out _)
theorem putBig_snoc (m : Nat) (h : Nat → Nat) (k : Nat) : putBig m ((List.range (k + 1)).map h) = putBig m ((List.range k).map h) ++ beB m (h k) := by
  simp [putBig, List.range_succ]
theorem rep_snoc (k : Nat) : List.replicate (k + 1) (0 : Nat) = List.replicate k 0 ++ [0] := by
  rw [List.replicate_succ']
set_option maxRecDepth 100000 in
set_option maxHeartbeats 4000000 in
theorem refBlock20_core (a : Nat) (ha : a < 256) (sz m : Nat) (hsz : sz = 16 * m) (hm8 : m ≤ 8) (h : Nat → Nat) (hh : ∀ i, h i < 18446744073709551616) (hi lo : Nat) (hhi : hi < 18446744073709551616) (hl : lo < 18446744073709551616) (A : Option Addr) (c : Nat) (xs : List Nat) (fl : Bool) (hx : xs.length ≤ sz) (w : World) (hw : Words .u8 w A xs)
    (C0 : ∀ W, Calls Tryd.prog 26 #[.int .i64 (a : Nat)] W fun e w' => e = .returned (.int .i64 (sz : Nat)) ∧ W = w') :
    Calls Tryd.prog 12 #[.agg (blkV a h hi lo (.slice A xs.length c) fl)] w (Gives .u8 5 (blkB a sz h hi lo xs fl) w) := by
  obtain ⟨i0, hi0, hz0, hz1, hz2⟩ := info_parts u8_info2
  have HC0 := Lib.hid C0
  have HH := Lib.hid (fun W => refHead_any a ha fl W)
  have HG1 : Hid (∀ W, Calls Tryd.prog 30 #[.int .u64 (hi : Nat), .int .i64 8] W (Gives .u8 5 (beB 8 hi) W)) := fun W => refBig_any hi hhi 8 (by omega) W
  have HG2 : Hid (∀ W, Calls Tryd.prog 30 #[.int .u64 (lo : Nat), .int .i64 8] W (Gives .u8 5 (beB 8 lo) W)) := fun W => refBig_any lo hl 8 (by omega) W
  have HG3 := Lib.hid (fun k W => refBig_any (h k) (hh k) m (by omega) W)
  have H0 : Hold (w.alloc (.cells (blkV a h hi lo (.slice A xs.length c) fl) 28)) w.heap.size 13 (blkV a h hi lo (.slice A xs.length c) fl) := Hold.new w _ _ 13 rfl
  have hb0 : Below w.heap.size w (w.alloc (.cells (blkV a h hi lo (.slice A xs.length c) fl) 28)) := (Below.refl _ w).alloc (Nat.le_refl _) _
  have H0' := Lib.hid H0
  have HB0 := Lib.hid hb0
  have HW := Lib.hid (hw.below hb0 (Nat.le_refl _))
  have c0 : (w.alloc (.cells (blkV a h hi lo (.slice A xs.length c) fl) 28)).cell? ⟨w.heap.size, 0, none⟩ = some (.int .i64 (a : Nat)) := H0.cell rfl
  have hq : (sz : Int) / 16 = (m : Int) := by omega
  have hq2 : (sz : Int).tdiv 16 = (m : Int) := by rw [Int.tdiv_eq_ediv_of_nonneg (by omega)]; exact hq
  have HKK := Lib.hid (fun k (hk : k < 8) => blk_h (alg := (a : Int)) (h := h) (hi := hi) (lo := lo) (s := .slice A xs.length c) (fl := fl) hk)
  have K9 : Hid ((blkV a h hi lo (.slice A xs.length c) fl)[9]? = some (.int .u64 (hi : Nat))) := rfl
  have K10 : Hid ((blkV a h hi lo (.slice A xs.length c) fl)[10]? = some (.int .u64 (lo : Nat))) := rfl
  have K11 : Hid ((blkV a h hi lo (.slice A xs.length c) fl)[11]? = some (.slice A xs.length c)) := rfl
  have K12 : Hid ((blkV a h hi lo (.slice A xs.length c) fl)[12]? = some (.bool fl)) := rfl
  have K0 : Hid ((blkV a h hi lo (.slice A xs.length c) fl)[0]? = some (.int .i64 (a : Nat))) := rfl
  have l1 : (headN a fl).length ≤ 6 := Nat.le_refl 6
  have l2 := Nat.le_of_eq (beB_length 8 hi)
  have l3 := Nat.le_of_eq (beB_length 8 lo)
  have hs128 : sz ≤ 128 := by omega
  have HT : Hid (∀ zs, zs = headN a fl ++ beB 8 hi ++ beB 8 lo ++ putBig m ((List.range 8).map h) ++ xs ++ List.replicate (sz - xs.length) 0 → zs = blkB a sz h hi lo xs fl) := fun zs hz => by
    rw [hz, blkB, show sz / 16 = m by omega]
    simp [putBig, hL]
  clear hw C0 hb0 hh hhi hl H0 hsz
  generalize blkB a sz h hi lo xs fl = tot at *
  generalize headN a fl = zh at *
  generalize beB 8 hi = zi at *
  generalize beB 8 lo = zl at *
  generalize blkV a h hi lo (.slice A xs.length c) fl = u at *
  go_enter Tryd.func12, Tryd.ntmps12
  go_wp2_with fail
  refine (HC0.out _).mono ?_
  rintro e w1 ⟨rfl, rfl⟩
  generalize hWW : w.alloc (.cells u 28) = W1 at *
  have hN : W1.heap.size = w.heap.size + 1 := by rw [← hWW, World.size_alloc]
  clear hWW
  have c12 : W1.cell? ⟨w.heap.size, 12, none⟩ = some (.bool fl) := H0'.out.cell K12.out
  go_wp2_with (first
    | (go_at_call 29
       (with_reducible refine (HH.out _).mono ?_)
       rintro e u1 ⟨A1, c1, rfl, hr, -, hb⟩
       have HA := Lib.hid (AC.of_gives (Below.refl _ W1) hr hb)
       have HD := Lib.hid (H0'.out.call hb)
       have d9 : u1.cell? ⟨w.heap.size, 9, none⟩ = some (.int .u64 (hi : Nat)) := HD.out.cell K9.out
       have hs := HA.out.size
       have HS := Lib.hid hs
       clear hr hb hs)
    | (go_at_call 30
       (with_reducible refine (HG1.out _).mono ?_)
       rintro e u2 ⟨A2, c2, rfl, -, hw2, hb⟩
       have HV := Lib.hid hw2
       replace HA := Lib.hid (HA.out.call hb)
       clear hw2 hb)
    | (at_builtin
       refine append_anyB rfl _ _ 26 rfl W1.heap.size 5 i0 Tryd.underlying26 hi0 hz0 hz1 hz2 _ zh rfl HA.out.row A2 c2 zi rfl HV.out (by omega) HA.out.size ?_
       intro v2 w2 h2 hg2
       replace HA := Lib.hid (HA.out.app h2 hg2)
       have d10 : w2.cell? ⟨w.heap.size, 10, none⟩ = some (.int .u64 (lo : Nat)) := (H0'.out.below HA.out.below (by omega)).cell K10.out
       clear h2 hg2 HV)
    | (go_at_call 30
       (with_reducible refine (HG2.out _).mono ?_)
       rintro e u3 ⟨A3, c3, rfl, -, hw2, hb⟩
       have HV := Lib.hid hw2
       replace HA := Lib.hid (HA.out.call hb)
       clear hw2 hb)
    | (at_builtin
       refine append_anyB rfl _ _ 26 rfl W1.heap.size 5 i0 Tryd.underlying26 hi0 hz0 hz1 hz2 _ (zh ++ zi) rfl HA.out.row A3 c3 zl rfl HV.out (by simp only [List.length_append]; omega) HA.out.size ?_
       intro v3 w3 h2 hg2
       replace HA := Lib.hid (HA.out.app h2 hg2)
       clear h2 hg2 HV))
  clear HH HG1 HG2
  have l4 : (zh ++ zi ++ zl).length ≤ 100 := by simp only [List.length_append]; omega
  generalize zh ++ zi ++ zl = zp at *
  have HA0 := HA
  clear HA
  go_loopg [4, 5] 8 (fun g v i wr => ∃ k : Nat, k + g = 8 ∧ i = .int .i64 (k : Nat) ∧ Hid (AC W1 v (zp ++ putBig m ((List.range k).map h)) wr))
  case atStart => exact ⟨0, by omega, rfl, by rw [show putBig m ((List.range 0).map h) = [] from rfl, List.append_nil]; exact HA0⟩
  case round =>
    clear HA0 d9 d10
    obtain ⟨k, hk, rfl, HA⟩ := hrel
    have lk : (putBig m ((List.range k).map h)).length ≤ 100 := by rw [putBig_length, List.length_map, List.length_range]; have := Nat.mul_le_mul (show k ≤ 8 by omega) hm8; omega
    by_cases h8 : k < 8
    · obtain ⟨g, rfl⟩ : ∃ g, gk = g + 1 := ⟨gk - 1, by omega⟩
      have q1 : wr.cell? ⟨w.heap.size, 1 + k, none⟩ = some (.int .u64 (h k : Nat)) := (H0'.out.below HA.out.below (by omega)).cell (HKK.out k h8)
      have i1 : (k : Int) < 8 := by omega
      have HG := Lib.hid (fun W => HG3.out k W)
      have HS := Lib.hid (putBig_snoc m h k)
      have lb : (beB m (h k)).length ≤ 100 := by rw [beB_length]; omega
      generalize putBig m ((List.range k).map h) = zk at *
      generalize beB m (h k) = zb at *
      generalize h k = y at *
      go_wp2_with (first
        | (go_at_call 30
           (with_reducible refine (HG.out _).mono ?_)
           rintro e u3 ⟨A3, c3, rfl, -, hw2, hb⟩
           have HV := Lib.hid hw2
           replace HA := Lib.hid (HA.out.call hb)
           clear hw2 hb)
        | (at_builtin
           refine append_anyB rfl _ _ 26 rfl W1.heap.size 5 i0 Tryd.underlying26 hi0 hz0 hz1 hz2 _ (zp ++ zk) rfl HA.out.row A3 c3 zb rfl HV.out (by simp only [List.length_append]; omega) HA.out.size ?_
           intro v3 w3 h2 hg2
           replace HA := Lib.hid (HA.out.app h2 hg2)
           clear h2 hg2 HV))
      go_roundg g
      case measure => omega
      case rel => exact ⟨k + 1, by omega, by go_num, by rw [HS.out, ← List.append_assoc]; exact HA⟩
    · obtain rfl : k = 8 := by omega
      generalize putBig m ((List.range 8).map h) = zk at *
      have q1 : wr.cell? ⟨w.heap.size, 11, none⟩ = some (.slice A xs.length c) := (H0'.out.below HA.out.below (by omega)).cell K11.out
      have HW2 := Lib.hid (HW.out.below HA.out.below (Nat.le_refl _))
      have lx : xs.length ≤ 200 := by omega
      go_wp2_with (first
        | (at_builtin
           refine append_anyB rfl _ _ 26 rfl W1.heap.size 5 i0 Tryd.underlying26 hi0 hz0 hz1 hz2 _ (zp ++ zk) rfl HA.out.row A c xs rfl HW2.out (by simp only [List.length_append]; omega) HA.out.size ?_
           intro v3 w3 h2 hg2
           replace HA := Lib.hid (HA.out.app h2 hg2)
           have q2 : w3.cell? ⟨w.heap.size, 11, none⟩ = some (.slice A xs.length c) := (H0'.out.below HA.out.below (by omega)).cell K11.out
           clear h2 hg2))
      have l5 : (zp ++ zk ++ xs).length ≤ 500 := by simp only [List.length_append]; omega
      generalize zp ++ zk ++ xs = zq at *
      have HA0 := HA
      clear HA q1 q2
      go_loopg [4, 6] (sz - xs.length) (fun g v i wr => ∃ j : Nat, j + g = sz - xs.length ∧ i = .int .i64 ((xs.length + j : Nat) : Int) ∧ Hid (AC W1 v (zq ++ List.replicate j 0) wr))
      case atStart => exact ⟨0, by omega, by go_num, by simpa using HA0⟩
      case round =>
        clear HA0
        obtain ⟨j, hj, rfl, HA⟩ := hrel
        by_cases hlt : xs.length + j < sz
        · obtain ⟨g, rfl⟩ : ∃ g, gk = g + 1 := ⟨gk - 1, by omega⟩
          have d1 : decide (((xs.length + j : Nat) : Int) < (sz : Int)) = true := decide_eq_true (by omega)
          have HS := Lib.hid (rep_snoc j)
          have lj : (List.replicate j (0 : Nat)).length ≤ 200 := by rw [List.length_replicate]; omega
          generalize List.replicate j (0 : Nat) = zj at *
          have HB2 := Lib.hid ((Below.refl wr.heap.size wr).alloc (Nat.le_refl _) (.cells #[.int .u8 0] 5))
          have HV := Lib.hid (words_new wr 5 .u8 [0] (c := #[.int .u8 0]) rfl)
          replace HA := Lib.hid (HA.out.call HB2.out)
          go_wp2_with (first
            | (at_builtin
               refine append_anyB rfl _ _ 26 rfl W1.heap.size 5 i0 Tryd.underlying26 hi0 hz0 hz1 hz2 _ (zq ++ zj) rfl HA.out.row (some ⟨wr.heap.size, 0, none⟩) 1 [0] rfl HV.out (by simp only [List.length_append, List.length_cons, List.length_nil]; omega) HA.out.size ?_
               intro v3 w3 h2 hg2
               replace HA := Lib.hid (HA.out.app h2 hg2)
               clear h2 hg2))
          go_roundg g
          case measure => omega
          case rel => exact ⟨j + 1, by omega, by go_num, by rw [HS.out, ← List.append_assoc]; exact HA⟩
        · have d1 : decide (((xs.length + j : Nat) : Int) < (sz : Int)) = false := decide_eq_false (by omega)
          obtain rfl : j = sz - xs.length := by omega
          have HE := Lib.hid (HT.out _ rfl)
          go_wp2_with fail
          go_ret
          have hr := HA.out.row
          rw [HE.out] at hr
          exact Gives.mk (hr.mono (by omega)) (HB0.out.trans (HA.out.below.mono (by omega)))
theorem refBlock20_any (a : Nat) (h : Nat → Nat) (hh : ∀ i, h i < 18446744073709551616) (hi lo : Nat) (hhi : hi < 18446744073709551616) (hl : lo < 18446744073709551616) (A : Option Addr) (c : Nat) (xs : List Nat) (fl : Bool) (w : World) (hw : Words .u8 w A xs)
    (h1 : 1 ≤ a) (h6 : a ≤ 6) (hx : xs.length ≤ sz11 a) :
    Calls Tryd.prog 12 #[.agg (blkV a h hi lo (.slice A xs.length c) fl)] w (Gives .u8 5 (blkB a (sz11 a) h hi lo xs fl) w) := by
  have hc : sz11 (a : Int) = 64 ∨ sz11 (a : Int) = 128 := by
    rcases sz11_cases (a : Int) with ⟨hs, _⟩ | ⟨hs, _⟩ | ⟨_, hs⟩
    · exact .inl hs
    · exact .inr hs
    · omega
  exact refBlock20_core a (by omega) (sz11 a) (sz11 a / 16) (by omega) (by omega) h hh hi lo hhi hl A c xs fl hx w hw (fun W => refBlock11_any a W)
end Go.Proofs.YteiemboopkbdpaaDoor.Sn
end

section
namespace Go.Proofs.YteiemboopkbdpaaDoor.Cd
open Go.RowKit Go.MapKept Rw
set_option linter.unusedVariables false
set_option maxRecDepth 20000
set_option linter.unusedSimpArgs false
def rateB (r : Int) : Bool := decide (r = 136 ∨ r = 168)
def pxN (r : Nat) (xs ys : List Nat) : List Nat := padN r (textN xs ++ textN ys)
theorem pxN_lt (r : Nat) {xs ys : List Nat} (hx : AllLt 256 xs) (hy : AllLt 256 ys) : AllLt 256 (pxN r xs ys) := padN_lt ((textN_lt hx).append (textN_lt hy))
theorem texts_length (xs ys : List Nat) : (textN xs ++ textN ys).length ≤ xs.length + ys.length + 18 := by
  have h1 := nb_le (8 * xs.length)
  have h2 := nb_le (8 * ys.length)
  rw [List.length_append, textN_length, textN_length]; omega
theorem pxN_length (r : Nat) (xs ys : List Nat) (hr : 1 ≤ r) : (pxN r xs ys).length < xs.length + ys.length + 27 + r := by
  have h1 := texts_length xs ys
  have h2 := nb_le r
  have h3 := padK_lt (n := nb r + 1 + (textN xs ++ textN ys).length) hr
  unfold pxN; rw [padN_length]; omega
theorem step_appB {P : Program} {w : World} {ops : Array Oper} {o : Oper} {a : Act} {K : Act → World → Prop} {Q : Exit → Act → World → Prop} {E : Prop} (hgd : o.guard = none) (s x : Operand) (t : TypeId)
    (ho : o.op = .call { callee := .builtin .append, args := #[s, x], argTypes := #[t, t] })
    (base : Nat) (e : TypeId) (i : TypeInfo) (ht : P.underlying t = some (.slice e)) (hi : P.info? e = some i) (hz : i.zero = some (.int .u8 0)) (hsize : i.size = 1) (hby : i.bytes = 1)
    (v : Value) (zs : List Nat) (hs : a.eval s = v) (hown : Row .u8 e base w v zs) (A : Option Addr) (c : Nat) (ys : List Nat) (hx : a.eval x = .slice A ys.length c) (hw : Words .u8 w A ys) (hy0 : ys ≠ [])
    (hlen : zs.length + ys.length ≤ 10000000) (hbase : base ≤ w.heap.size)
    (h : ∀ v' w', Row .u8 e base w' v' (zs ++ ys) → w.grownBy w' v.ownBlock → K (a.put o.dst v') w') :
    if Region.wanted o (yielded ops a.tmps) = true then Oper.wp P o a w K Q else E := by
  have hp : 0 < ys.length := List.length_pos_iff.2 hy0
  obtain ⟨b, o', rfl, -⟩ := hw 0 hp
  exact step_append_lies w hgd s x t ho base e i (.int .u8 0) 1 1 ht hi hz hsize hby rfl (by decide) v zs.length (cellsOf .u8 zs) hs hown ⟨b, o', none⟩ ys.length c (cellsOf .u8 ys) hx (by rw [cellsOf_length, Nat.mul_one]) (words_addr8 hw) (cellsOf_oneCell _ _) hp (by unfold maxLen; omega) (by omega) hbase w.heap.size rfl
    fun g cap w' h1 h2 _ _ => h _ w' (Row.append h1) h2
end Go.Proofs.YteiemboopkbdpaaDoor.Cd
end

section
namespace Go.Proofs.YteiemboopkbdpaaDoor.Ln
open Go.RowKit Rw L64
set_option linter.unusedVariables false
set_option linter.unusedSimpArgs false
theorem bytesN_take (f : Nat → Nat) (k : Nat) (h : k < 25) : (bytesN f).take (8 * (k + 1)) = (bytesN f).take (8 * k) ++ leB 8 (f k) := by
  refine ext_getD (by rw [List.length_append, List.length_take, List.length_take, bytesN_length, leB_length]; omega) fun i hi => ?_
  rw [List.length_take, bytesN_length] at hi
  rw [getD_take _ _ _ (by omega), bytesN_getD _ _ (by omega)]
  by_cases h1 : i < 8 * k
  · rw [List.getD_eq_getElem?_getD, List.getElem?_append_left (by rw [List.length_take, bytesN_length]; omega), ← List.getD_eq_getElem?_getD, getD_take _ _ _ h1, bytesN_getD _ _ (by omega)]
  · rw [List.getD_eq_getElem?_getD, List.getElem?_append_right (by rw [List.length_take, bytesN_length]; omega), ← List.getD_eq_getElem?_getD, List.length_take, bytesN_length, Nat.min_eq_left (by omega), leB_getD _ _ _ (by omega)]
    unfold laneB
    rw [show i / 8 = k by omega, show i % 8 = i - 8 * k by omega]
theorem row_addr {k : IntKind} {t : TypeId} {base : Nat} {w : World} {A : Option Addr} {n c : Nat} {xs : List Nat} (h : Row k t base w (.slice A n c) xs) (hx : 0 < xs.length) : ∃ g, A = some ⟨g, 0, none⟩ ∧ base ≤ g := by
  rcases h.2 with ⟨e, h0⟩ | ⟨g, cap, cur, e, hb, _⟩
  · omega
  · injection e with e1 _ _
    exact ⟨g, e1, hb⟩
set_option maxRecDepth 20000 in
set_option maxHeartbeats 2000000 in
theorem refBytes14_any (f : Nat → Nat) (hf : ∀ i, f i < 18446744073709551616) (w : World) :
    Calls Tryd.prog 40 #[.agg (uTab 25 f)] w (Gives .u8 5 (bytesN f) w) := by
  obtain ⟨i0, hi0, hz0, hz1, hz2⟩ := info_parts u8_info2
  have H0 := Hold.new w (uTab 25 f) 40 25 (uTab_size _ _)
  have HB := Lib.hid ((Below.refl w.heap.size w).alloc (Nat.le_refl _) (.cells (uTab 25 f) 40))
  go_enter Tryd.func40, Tryd.ntmps40
  go_wp2
  generalize w.alloc (.cells (uTab 25 f) 40) = w1 at *
  have H0' := Lib.hid H0
  have hlt0 := H0.lt
  clear H0
  go_loopg [3, 4] 25 (fun g v i wr => ∃ k : Nat, k + g = 25 ∧ i = .int .i64 (k : Nat) ∧ Hid (Row .u8 5 w1.heap.size wr v ((bytesN f).take (8 * k))) ∧ Hid (Below w1.heap.size w1 wr))
  case atStart => exact ⟨0, by omega, rfl, Row.nil _ _ _ _, Below.refl _ _⟩
  case round =>
    obtain ⟨k, hk, rfl, HR, HBw⟩ := hrel
    by_cases hlt : k < 25
    · obtain ⟨g, rfl⟩ : ∃ g, gk = g + 1 := ⟨gk - 1, by omega⟩
      have hk25 : (k : Int) < 25 := Int.ofNat_lt.2 hlt
      have q1 : wr.cell? ⟨w.heap.size, k, none⟩ = some (.int .u64 (f k : Nat)) := (H0'.out.below HBw.out hlt0).cell (uTab_at 25 _ k hlt)
      have hfk := hf k
      have HT := Lib.hid (bytesN_take f k hlt)
      have hzl : ((bytesN f).take (8 * k)).length ≤ 200 := by rw [List.length_take]; have := bytesN_length f; omega
      generalize (bytesN f).take (8 * k) = zs at *
      generalize f k = x at *
      go_wp2_with fail
      refine (refLittle_any x hfk 8 (by omega) _).mono ?_
      rintro e w2 h2
      obtain ⟨A2, c2, rfl, -, -, -, hw2, hb2⟩ := gives_caps h2
      obtain ⟨g2, o2, rfl, -, -⟩ := hw2.block (i := 0) (by rw [leB_length]; omega)
      have HR2 := Lib.hid (HR.out.below hb2 (Nat.le_refl _))
      have HB2 := Lib.hid (HBw.out.trans (hb2.mono HBw.out.size))
      have HW2 := Lib.hid hw2
      have hl8 : (leB 8 x).length = 8 := leB_length _ _
      clear h2 hw2 hb2 q1 HR HBw
      rw [leB_length]
      generalize leB 8 x = ys at *
      simp only []
      go_step
      refine append_bytes rfl _ _ 26 rfl w1.heap.size 5 i0 Tryd.underlying26 hi0 hz0 hz1 hz2 _ zs rfl HR2.out ⟨g2, o2, Option.none⟩ c2 ys (by rw [hl8]; rfl) HW2.out (by omega) HB2.out.size ?_
      intro v3 w3 h3 hg3
      have HB3 := Lib.hid (Row.grown0 HR2.out HB2.out HB2.out.size hg3)
      have HR3 := Lib.hid h3
      clear h3 hg3 HR2 HB2 HW2
      go_wp2_with fail
      go_roundg g
      case measure => omega
      case rel => exact ⟨k + 1, by omega, by go_num, by rw [HT.out]; exact HR3, HB3⟩
    · obtain rfl : k = 25 := by omega
      go_wp2
      go_ret
      have hr := HR.out
      rw [List.take_of_length_le (by rw [bytesN_length]; omega)] at hr
      exact Gives.mk (hr.mono HB.out.size) (HB.out.trans (HBw.out.mono HB.out.size))
end Go.Proofs.YteiemboopkbdpaaDoor.Ln
end

section
namespace Go.Proofs.YteiemboopkbdpaaDoor.Sn
open Go.RowKit Rw Mk Cd L64 Al Ln
set_option linter.unusedVariables false
set_option linter.unusedSimpArgs false
set_option maxRecDepth 100000 in
set_option maxHeartbeats 4000000 in
theorem refSponge20_core (a : Nat) (ha : a < 256) (kd : Nat) (f : Nat → Nat) (hf : ∀ i, f i < 18446744073709551616) (p : Nat) (hp : p < 256) (rd : Bool) (A1 : Option Addr) (c1 : Nat) (xs1 : List Nat) (A2 : Option Addr) (c2 : Nat) (xs2 : List Nat) (hl1 : xs1.length ≤ 100000) (hl2 : xs2.length ≤ 100000) (w : World) (h1 : Words .u8 w A1 xs1) (h2 : Words .u8 w A2 xs2)
    (C0 : ∀ W, Calls Tryd.prog 36 #[.int .i64 (a : Nat)] W fun e w' => e = .returned (.int .i64 (kd : Nat)) ∧ W = w') :
    Calls Tryd.prog 18 #[.agg (spV a f (p : Nat) rd (.slice A1 xs1.length c1) (.slice A2 xs2.length c2))] w (Gives .u8 5 (spgB a kd f p rd xs1 xs2) w) := by
  obtain ⟨i0, hi0, hz0, hz1, hz2⟩ := info_parts u8_info2
  have hb0 : Below w.heap.size w (w.alloc (.cells (spV a f (p : Nat) rd (.slice A1 xs1.length c1) (.slice A2 xs2.length c2)) 42)) := (Below.refl _ w).alloc (Nat.le_refl _) _
  have hH := Hold.new w (spV a f (p : Nat) rd (.slice A1 xs1.length c1) (.slice A2 xs2.length c2)) 42 30 spV_size
  have HC0 := Lib.hid C0
  have HH := Lib.hid (fun W => refHead_any a ha rd W)
  have HG := Lib.hid (fun W => refBytes14_any f hf W)
  have HT1 := Lib.hid (fun W hW => refText_any A1 c1 xs1 hl1 W hW)
  have HT2 := Lib.hid (fun W hW => refText_any A2 c2 xs2 hl2 W hW)
  have K0 : Hid ((spV a f (p : Nat) rd (.slice A1 xs1.length c1) (.slice A2 xs2.length c2))[0]? = some (.int .i64 (a : Nat))) := spV_0
  have K26 : Hid ((spV a f (p : Nat) rd (.slice A1 xs1.length c1) (.slice A2 xs2.length c2))[26]? = some (.int .i64 (p : Nat))) := spV_26
  have K27 : Hid ((spV a f (p : Nat) rd (.slice A1 xs1.length c1) (.slice A2 xs2.length c2))[27]? = some (.bool rd)) := spV_27
  have K28 : Hid ((spV a f (p : Nat) rd (.slice A1 xs1.length c1) (.slice A2 xs2.length c2))[28]? = some (.slice A1 xs1.length c1)) := spV_28
  have K29 : Hid ((spV a f (p : Nat) rd (.slice A1 xs1.length c1) (.slice A2 xs2.length c2))[29]? = some (.slice A2 xs2.length c2)) := spV_29
  have KL : Hid (∀ W, Hold W w.heap.size 30 (spV a f (p : Nat) rd (.slice A1 xs1.length c1) (.slice A2 xs2.length c2)) → (loadRow 40 (.pointer (some ⟨w.heap.size, 1, none⟩))).run Tryd.prog W = .ok (.agg (uTab 25 f)) W) := fun W h => sp_lanes h
  have HW1 := Lib.hid (h1.below hb0 (Nat.le_refl _))
  have HW2 := Lib.hid (h2.below hb0 (Nat.le_refl _))
  have HB0 := Lib.hid hb0
  have hwr : IntKind.u8.wrap (p : Int) = (p : Int) := by rw [IntKind.wrap_u8]; omega
  have hwr2 : (p : Int) % 256 = (p : Int) := by omega
  have l1 : (headN a rd).length ≤ 6 := Nat.le_refl 6
  have l2 : (bytesN f).length ≤ 200 := by simp [bytesN]
  have n1 := nb_le (8 * xs1.length)
  have n2 := nb_le (8 * xs2.length)
  have l3 : (textN xs1).length ≤ 100100 := by rw [textN_length]; omega
  have l4 : (textN xs2).length ≤ 100100 := by rw [textN_length]; omega
  have HT : Hid (∀ zs, zs = headN a rd ++ [p] ++ bytesN f ++ (if kd = 4 then textN xs1 ++ textN xs2 else []) → zs = spgB a kd f p rd xs1 xs2) := fun zs hz => by
    rw [hz, spgB, nameB]
    simp
  clear C0 hf ha hp n1 n2 hl1 hl2 h1 h2 hb0
  generalize spgB a kd f p rd xs1 xs2 = tot at *
  generalize headN a rd = zh at *
  generalize bytesN f = zb at *
  generalize textN xs1 = z1 at *
  generalize textN xs2 = z2 at *
  generalize spV a f (p : Nat) rd (.slice A1 xs1.length c1) (.slice A2 xs2.length c2) = u at *
  go_enter Tryd.func18, Tryd.ntmps18
  go_wp2_with fail
  generalize hWW : w.alloc (.cells u 42) = U at *
  have hN : w.heap.size < U.heap.size := by rw [← hWW, World.size_alloc]; omega
  clear hWW
  have hHd : Hold U.drew w.heap.size 30 u := hH.drew
  have H0 := Lib.hid hH
  have c0 : U.cell? ⟨w.heap.size, 0, none⟩ = some (.int .i64 (a : Nat)) := hH.cell K0.out
  have c26 : U.cell? ⟨w.heap.size, 26, none⟩ = some (.int .i64 (p : Nat)) := hH.cell K26.out
  have c27 : U.cell? ⟨w.heap.size, 27, none⟩ = some (.bool rd) := hH.cell K27.out
  have hHp : Hold (U.alloc (.cells #[.int .u8 (p : Nat)] 5)) w.heap.size 30 u := hH.past _
  have e0 : (U.alloc (.cells #[.int .u8 (p : Nat)] 5)).cell? ⟨w.heap.size, 0, none⟩ = some (.int .i64 (a : Nat)) := hHp.cell K0.out
  have e27 : (U.alloc (.cells #[.int .u8 (p : Nat)] 5)).cell? ⟨w.heap.size, 27, none⟩ = some (.bool rd) := hHp.cell K27.out
  have HVp : Hid (Words .u8 (U.alloc (.cells #[.int .u8 (p : Nat)] 5)).drew (some ⟨U.heap.size, 0, none⟩) [p]) := words_new U 5 .u8 [p] rfl
  have HUd : Hid (Below U.heap.size U U.drew) := (Below.refl _ _).drewN 1
  have HUp : Hid (Below U.heap.size U (U.alloc (.cells #[.int .u8 (p : Nat)] 5)).drew) := (((Below.refl _ _).alloc (Nat.le_refl _) _).drewN 1)
  clear hH hHd hHp
  go_region_law (first
    | (go_simp
       go_at_call 29
       (with_reducible refine (HH.out _).mono ?_)
       rintro e u1 ⟨Ah, ch, rfl, hr, -, hb⟩
       try clear c0 c26 c27
       try clear e0 e27
       first
         | (have HVx := Lib.hid (Words.below HVp.out hb (Nat.le_refl _))
            have HA := Lib.hid (AC.of_gives HUp.out hr hb)
            clear hr hb)
         | (have hA := AC.of_gives HUd.out hr hb
            have hHx := H0.out.below hA.below (by omega)
            have c26 : u1.cell? ⟨w.heap.size, 26, none⟩ = some (.int .i64 (p : Nat)) := hHx.cell K26.out
            have HVx := Lib.hid (words_new u1 5 .u8 [p] (c := #[.int .u8 (p : Nat)]) rfl)
            have HA := Lib.hid (hA.call (W' := u1.alloc (.cells #[.int .u8 (p : Nat)] 5)) ((Below.refl _ _).alloc (Nat.le_refl _) _))
            clear hr hb hA hHx))
    | (refine step_appB rfl _ _ 26 rfl U.heap.size 5 i0 Tryd.underlying26 hi0 hz0 hz1 hz2 (.slice Ah zh.length ch) zh (by rfl) HA.out.row (some ⟨_, 0, none⟩) 1 [p] (by rfl) HVx.out (by simp) (by simp only [List.length_cons, List.length_nil]; omega) HA.out.size ?_
       intro v5 w5 h5 hg5
       replace HA := Lib.hid (HA.out.app h5 hg5)
       have p1 := KL.out _ (H0.out.below HA.out.below (by omega))
       clear h5 hg5 HVx))
  all_goals
    clear HH HVp HUd HUp
    try clear c26
    by_cases h4 : kd = 4
    · have k4 : ((kd : Int) == 4) = true := by rw [beq_iff_eq]; omega
      rw [if_pos h4] at HT
      have HE := Lib.hid (HT.out (zh ++ [p] ++ zb ++ z1 ++ z2) (by simp))
      clear h4 HT
      go_wp2_with (first
        | (go_at_call 40
           (with_reducible refine (HG.out _).mono ?_)
           rintro e u2 ⟨A3, c3, rfl, -, hw2, hb⟩
           have HV := Lib.hid hw2
           replace HA := Lib.hid (HA.out.call hb)
           clear hw2 hb)
        | (at_builtin
           refine append_anyB rfl _ _ 26 rfl U.heap.size 5 i0 Tryd.underlying26 hi0 hz0 hz1 hz2 _ (zh ++ [p]) rfl HA.out.row A3 c3 zb rfl HV.out (by simp only [List.length_append, List.length_cons, List.length_nil]; omega) HA.out.size ?_
           intro v2 w2 k2 kg2
           replace HA := Lib.hid (HA.out.app k2 kg2)
           have d0 : w2.cell? ⟨w.heap.size, 0, none⟩ = some (.int .i64 (a : Nat)) := (H0.out.below HA.out.below (by omega)).cell K0.out
           have d28 : w2.cell? ⟨w.heap.size, 28, none⟩ = some (.slice A1 xs1.length c1) := (H0.out.below HA.out.below (by omega)).cell K28.out
           clear k2 kg2 HV)
        | (go_at_call 36
           (with_reducible refine (HC0.out _).mono ?_)
           rintro e u3 ⟨rfl, rfl⟩)
        | (go_at_call 41
           (with_reducible refine (HT1.out _ (HW1.out.below HA.out.below (Nat.le_refl _))).mono ?_)
           rintro e u4 ⟨A4, c4, rfl, -, hw2, hb⟩
           have HV := Lib.hid hw2
           replace HA := Lib.hid (HA.out.call hb)
           clear hw2 hb)
        | (at_builtin
           refine append_anyB rfl _ _ 26 rfl U.heap.size 5 i0 Tryd.underlying26 hi0 hz0 hz1 hz2 _ (zh ++ [p] ++ zb) rfl HA.out.row A4 c4 z1 rfl HV.out (by simp only [List.length_append, List.length_cons, List.length_nil]; omega) HA.out.size ?_
           intro v2 w2 k2 kg2
           replace HA := Lib.hid (HA.out.app k2 kg2)
           have d29 : w2.cell? ⟨w.heap.size, 29, none⟩ = some (.slice A2 xs2.length c2) := (H0.out.below HA.out.below (by omega)).cell K29.out
           clear k2 kg2 HV)
        | (go_at_call 41
           (with_reducible refine (HT2.out _ (HW2.out.below HA.out.below (Nat.le_refl _))).mono ?_)
           rintro e u4 ⟨A5, c5, rfl, -, hw2, hb⟩
           have HV := Lib.hid hw2
           replace HA := Lib.hid (HA.out.call hb)
           clear hw2 hb)
        | (at_builtin
           refine append_anyB rfl _ _ 26 rfl U.heap.size 5 i0 Tryd.underlying26 hi0 hz0 hz1 hz2 _ (zh ++ [p] ++ zb ++ z1) rfl HA.out.row A5 c5 z2 rfl HV.out (by simp only [List.length_append, List.length_cons, List.length_nil]; omega) HA.out.size ?_
           intro v2 w2 k2 kg2
           replace HA := Lib.hid (HA.out.app k2 kg2)
           clear k2 kg2 HV))
      go_ret
      have hr := HA.out.row
      rw [HE.out] at hr
      exact Gives.mk (hr.mono (by omega)) (HB0.out.trans (HA.out.below.mono (by omega)))
    · have k4 : ((kd : Int) == 4) = false := by rw [beq_eq_false_iff_ne]; omega
      rw [if_neg h4] at HT
      have HE := Lib.hid (HT.out (zh ++ [p] ++ zb) (by simp))
      clear h4 HT
      go_wp2_with (first
        | (go_at_call 40
           (with_reducible refine (HG.out _).mono ?_)
           rintro e u2 ⟨A3, c3, rfl, -, hw2, hb⟩
           have HV := Lib.hid hw2
           replace HA := Lib.hid (HA.out.call hb)
           clear hw2 hb)
        | (at_builtin
           refine append_anyB rfl _ _ 26 rfl U.heap.size 5 i0 Tryd.underlying26 hi0 hz0 hz1 hz2 _ (zh ++ [p]) rfl HA.out.row A3 c3 zb rfl HV.out (by simp only [List.length_append, List.length_cons, List.length_nil]; omega) HA.out.size ?_
           intro v2 w2 k2 kg2
           replace HA := Lib.hid (HA.out.app k2 kg2)
           have d0 : w2.cell? ⟨w.heap.size, 0, none⟩ = some (.int .i64 (a : Nat)) := (H0.out.below HA.out.below (by omega)).cell K0.out
           have d28 : w2.cell? ⟨w.heap.size, 28, none⟩ = some (.slice A1 xs1.length c1) := (H0.out.below HA.out.below (by omega)).cell K28.out
           clear k2 kg2 HV)
        | (go_at_call 36
           (with_reducible refine (HC0.out _).mono ?_)
           rintro e u3 ⟨rfl, rfl⟩)
        | (go_at_call 41
           (with_reducible refine (HT1.out _ (HW1.out.below HA.out.below (Nat.le_refl _))).mono ?_)
           rintro e u4 ⟨A4, c4, rfl, -, hw2, hb⟩
           have HV := Lib.hid hw2
           replace HA := Lib.hid (HA.out.call hb)
           clear hw2 hb)
        | (at_builtin
           refine append_anyB rfl _ _ 26 rfl U.heap.size 5 i0 Tryd.underlying26 hi0 hz0 hz1 hz2 _ (zh ++ [p] ++ zb) rfl HA.out.row A4 c4 z1 rfl HV.out (by simp only [List.length_append, List.length_cons, List.length_nil]; omega) HA.out.size ?_
           intro v2 w2 k2 kg2
           replace HA := Lib.hid (HA.out.app k2 kg2)
           have d29 : w2.cell? ⟨w.heap.size, 29, none⟩ = some (.slice A2 xs2.length c2) := (H0.out.below HA.out.below (by omega)).cell K29.out
           clear k2 kg2 HV)
        | (go_at_call 41
           (with_reducible refine (HT2.out _ (HW2.out.below HA.out.below (Nat.le_refl _))).mono ?_)
           rintro e u4 ⟨A5, c5, rfl, -, hw2, hb⟩
           have HV := Lib.hid hw2
           replace HA := Lib.hid (HA.out.call hb)
           clear hw2 hb)
        | (at_builtin
           refine append_anyB rfl _ _ 26 rfl U.heap.size 5 i0 Tryd.underlying26 hi0 hz0 hz1 hz2 _ (zh ++ [p] ++ zb ++ z1) rfl HA.out.row A5 c5 z2 rfl HV.out (by simp only [List.length_append, List.length_cons, List.length_nil]; omega) HA.out.size ?_
           intro v2 w2 k2 kg2
           replace HA := Lib.hid (HA.out.app k2 kg2)
           clear k2 kg2 HV))
      go_ret
      have hr := HA.out.row
      rw [HE.out] at hr
      exact Gives.mk (hr.mono (by omega)) (HB0.out.trans (HA.out.below.mono (by omega)))
end Go.Proofs.YteiemboopkbdpaaDoor.Sn
end

section
namespace Go.Proofs.YteiemboopkbdpaaDoor.Sn
open Go.RowKit Rw Mk Cd L64 Al Ln
set_option linter.unusedVariables false
set_option linter.unusedSimpArgs false
section
attribute [local go_sem ↓] loadB storeB zeroB bsS
attribute [local go_sem] run_bsS
set_option maxRecDepth 100000 in
set_option maxHeartbeats 4000000 in
theorem refSize_core (alg : Int) (kd : Nat) (A1 : Option Addr) (n1 c1 : Nat) (A2 : Option Addr) (n2 c2 : Nat) (b0 bR b4 bE b1 : Bool) (L1 L2 r : Nat) (w : World)
    (e0 : ((kd : Int) == 0) = b0) (e4 : decide ((kd : Int) < 4) = b4) (e1 : ((kd : Int) == 1) = b1)
    (C1 : ∀ W, Calls Tryd.prog 36 #[.int .i64 alg] W fun e w' => e = .returned (.int .i64 (kd : Nat)) ∧ W = w')
    (C2 : ∀ W, Calls Tryd.prog 38 #[.agg #[.slice A1 n1 c1, .slice A2 n2 c2]] W fun e w' => e = .returned (.bool bR) ∧ Below W.heap.size W w')
    (C3 : bR = true → ∀ W, Calls Tryd.prog 39 #[.agg #[.slice A1 n1 c1, .slice A2 n2 c2]] W fun e w' => e = .returned (.bool bE) ∧ Below W.heap.size W w')
    (C4 : b1 = true → ∀ W, Calls Tryd.prog 42 #[.int .i64 alg] W fun e w' => ∃ h : Nat → Nat, (∀ i, h i < 18446744073709551616) ∧ e = .returned (.agg (blkV alg h 0 0 (.slice none 0 0) false)) ∧ Below W.heap.size W w')
    (C5 : b1 = true → ∀ h : Nat → Nat, (∀ i, h i < 18446744073709551616) → ∀ W, Calls Tryd.prog 12 #[.agg (blkV alg h 0 0 (.slice none 0 0) false)] W fun e w' => ∃ A c, e = .returned (.slice A L1 c) ∧ Below W.heap.size W w')
    (C6 : b0 = false → bR = true → (b4 = true → bE = true) → b1 = false → ∀ W, Below w.heap.size w W → Calls Tryd.prog 18 #[.agg (spV alg (fun _ => 0) 0 false (.slice A1 n1 c1) (.slice A2 n2 c2))] W fun e w' => ∃ A c, e = .returned (.slice A L2 c) ∧ Below W.heap.size W w')
    (hr : r = if b0 || !bR || (b4 && !bE) then 0 else if b1 then L1 else L2) :
    Calls Tryd.prog 19 #[.int .i64 alg, .agg #[.slice A1 n1 c1, .slice A2 n2 c2]] w fun e w' => e = .returned (.int .i64 (r : Nat)) ∧ Below w.heap.size w w' := by
  have hb0 : Below w.heap.size w (w.alloc (.cells #[.slice A1 n1 c1, .slice A2 n2 c2] 38)) := (Below.refl _ w).alloc (Nat.le_refl _) _
  have H0 := Lib.hid (Hold.new w #[.slice A1 n1 c1, .slice A2 n2 c2] 38 2 rfl)
  have HB := Lib.hid hb0
  have D1 := Lib.hid C1
  have D2 := Lib.hid C2
  clear hb0 C1 C2
  cases b0 with
  | false =>
    cases bR with
    | false =>
      obtain rfl : r = 0 := hr
      clear C3 C4 C5 C6
      go_enter Tryd.func19, Tryd.ntmps19
      go_wp2_with (first
        | (go_at_call 36
           (with_reducible refine (D1.out _).mono ?_)
           rintro e u1 ⟨rfl, rfl⟩)
        | (go_at_call 38
           (with_reducible refine (D2.out _).mono ?_)
           rintro e u1 ⟨rfl, hb⟩
           replace HB := Lib.hid (HB.out.trans (hb.mono HB.out.size))
           replace H0 := Lib.hid (H0.out.call hb)
           have p3 : u1.cell? ⟨w.heap.size, 0, none⟩ = some (.slice A1 n1 c1) := H0.out.cell rfl
           have p4 : u1.cell? ⟨w.heap.size, 1, none⟩ = some (.slice A2 n2 c2) := H0.out.cell rfl
           clear hb)
        | (go_at_call 39
           (with_reducible refine (D3.out _).mono ?_)
           rintro e u2 ⟨rfl, hb⟩
           replace HB := Lib.hid (HB.out.trans (hb.mono HB.out.size))
           replace H0 := Lib.hid (H0.out.call hb)
           have p5 : u2.cell? ⟨w.heap.size, 0, none⟩ = some (.slice A1 n1 c1) := H0.out.cell rfl
           have p6 : u2.cell? ⟨w.heap.size, 1, none⟩ = some (.slice A2 n2 c2) := H0.out.cell rfl
           clear hb p3 p4)
        | (go_at_call 42
           (with_reducible refine (D4.out _).mono ?_)
           rintro e u3 ⟨h, hh, rfl, hb⟩
           have HH := Lib.hid hh
           have s1 := run_storeB (Hold.new u3 (blkV 0 (fun _ => 0) 0 0 (.slice none 0 0) false) 28 13 rfl).ok (c' := blkV alg h 0 0 (.slice none 0 0) false) rfl blkV_ones
           have s2 := (Hold.new u3 (blkV alg h 0 0 (.slice none 0 0) false) 28 13 rfl).load (T := 28) Tryd.underlying28 rfl (by kernel_rfl)
           have hb2 := HB.out.trans (hb.mono HB.out.size)
           replace HB := Lib.hid (hb2.alloc hb2.size (.cells (blkV alg h 0 0 (.slice none 0 0) false) 28))
           clear hb hb2 hh)
        | (go_at_call 12
           (with_reducible refine (D5.out _ HH.out _).mono ?_)
           rintro e u4 ⟨A, c, rfl, hb⟩
           replace HB := Lib.hid (HB.out.trans (hb.mono HB.out.size))
           clear hb)
        | (go_at_call 18
           (with_reducible refine (D6.out _ HB.out).mono ?_)
           rintro e u5 ⟨A, c, rfl, hb⟩
           replace HB := Lib.hid (HB.out.trans (hb.mono HB.out.size))
           clear hb))
      go_ret
      exact ⟨rfl, HB.out⟩
    | true =>
      cases b4 with
      | false =>
        cases b1 with
        | false =>
          obtain rfl : r = L2 := hr
          have D6 := Lib.hid (C6 rfl rfl (fun _ => by contradiction) rfl)
          clear C3 C4 C5 C6
          go_enter Tryd.func19, Tryd.ntmps19
          go_wp2_with (first
            | (go_at_call 36
               (with_reducible refine (D1.out _).mono ?_)
               rintro e u1 ⟨rfl, rfl⟩)
            | (go_at_call 38
               (with_reducible refine (D2.out _).mono ?_)
               rintro e u1 ⟨rfl, hb⟩
               replace HB := Lib.hid (HB.out.trans (hb.mono HB.out.size))
               replace H0 := Lib.hid (H0.out.call hb)
               have p3 : u1.cell? ⟨w.heap.size, 0, none⟩ = some (.slice A1 n1 c1) := H0.out.cell rfl
               have p4 : u1.cell? ⟨w.heap.size, 1, none⟩ = some (.slice A2 n2 c2) := H0.out.cell rfl
               clear hb)
            | (go_at_call 39
               (with_reducible refine (D3.out _).mono ?_)
               rintro e u2 ⟨rfl, hb⟩
               replace HB := Lib.hid (HB.out.trans (hb.mono HB.out.size))
               replace H0 := Lib.hid (H0.out.call hb)
               have p5 : u2.cell? ⟨w.heap.size, 0, none⟩ = some (.slice A1 n1 c1) := H0.out.cell rfl
               have p6 : u2.cell? ⟨w.heap.size, 1, none⟩ = some (.slice A2 n2 c2) := H0.out.cell rfl
               clear hb p3 p4)
            | (go_at_call 42
               (with_reducible refine (D4.out _).mono ?_)
               rintro e u3 ⟨h, hh, rfl, hb⟩
               have HH := Lib.hid hh
               have s1 := run_storeB (Hold.new u3 (blkV 0 (fun _ => 0) 0 0 (.slice none 0 0) false) 28 13 rfl).ok (c' := blkV alg h 0 0 (.slice none 0 0) false) rfl blkV_ones
               have s2 := (Hold.new u3 (blkV alg h 0 0 (.slice none 0 0) false) 28 13 rfl).load (T := 28) Tryd.underlying28 rfl (by kernel_rfl)
               have hb2 := HB.out.trans (hb.mono HB.out.size)
               replace HB := Lib.hid (hb2.alloc hb2.size (.cells (blkV alg h 0 0 (.slice none 0 0) false) 28))
               clear hb hb2 hh)
            | (go_at_call 12
               (with_reducible refine (D5.out _ HH.out _).mono ?_)
               rintro e u4 ⟨A, c, rfl, hb⟩
               replace HB := Lib.hid (HB.out.trans (hb.mono HB.out.size))
               clear hb)
            | (go_at_call 18
               (with_reducible refine (D6.out _ HB.out).mono ?_)
               rintro e u5 ⟨A, c, rfl, hb⟩
               replace HB := Lib.hid (HB.out.trans (hb.mono HB.out.size))
               clear hb))
          go_ret
          exact ⟨rfl, HB.out⟩
        | true =>
          obtain rfl : r = L1 := hr
          have D4 := Lib.hid (C4 rfl)
          have D5 := Lib.hid (C5 rfl)
          clear C3 C4 C5 C6
          go_enter Tryd.func19, Tryd.ntmps19
          go_wp2_with (first
            | (go_at_call 36
               (with_reducible refine (D1.out _).mono ?_)
               rintro e u1 ⟨rfl, rfl⟩)
            | (go_at_call 38
               (with_reducible refine (D2.out _).mono ?_)
               rintro e u1 ⟨rfl, hb⟩
               replace HB := Lib.hid (HB.out.trans (hb.mono HB.out.size))
               replace H0 := Lib.hid (H0.out.call hb)
               have p3 : u1.cell? ⟨w.heap.size, 0, none⟩ = some (.slice A1 n1 c1) := H0.out.cell rfl
               have p4 : u1.cell? ⟨w.heap.size, 1, none⟩ = some (.slice A2 n2 c2) := H0.out.cell rfl
               clear hb)
            | (go_at_call 39
               (with_reducible refine (D3.out _).mono ?_)
               rintro e u2 ⟨rfl, hb⟩
               replace HB := Lib.hid (HB.out.trans (hb.mono HB.out.size))
               replace H0 := Lib.hid (H0.out.call hb)
               have p5 : u2.cell? ⟨w.heap.size, 0, none⟩ = some (.slice A1 n1 c1) := H0.out.cell rfl
               have p6 : u2.cell? ⟨w.heap.size, 1, none⟩ = some (.slice A2 n2 c2) := H0.out.cell rfl
               clear hb p3 p4)
            | (go_at_call 42
               (with_reducible refine (D4.out _).mono ?_)
               rintro e u3 ⟨h, hh, rfl, hb⟩
               have HH := Lib.hid hh
               have s1 := run_storeB (Hold.new u3 (blkV 0 (fun _ => 0) 0 0 (.slice none 0 0) false) 28 13 rfl).ok (c' := blkV alg h 0 0 (.slice none 0 0) false) rfl blkV_ones
               have s2 := (Hold.new u3 (blkV alg h 0 0 (.slice none 0 0) false) 28 13 rfl).load (T := 28) Tryd.underlying28 rfl (by kernel_rfl)
               have hb2 := HB.out.trans (hb.mono HB.out.size)
               replace HB := Lib.hid (hb2.alloc hb2.size (.cells (blkV alg h 0 0 (.slice none 0 0) false) 28))
               clear hb hb2 hh)
            | (go_at_call 12
               (with_reducible refine (D5.out _ HH.out _).mono ?_)
               rintro e u4 ⟨A, c, rfl, hb⟩
               replace HB := Lib.hid (HB.out.trans (hb.mono HB.out.size))
               clear hb)
            | (go_at_call 18
               (with_reducible refine (D6.out _ HB.out).mono ?_)
               rintro e u5 ⟨A, c, rfl, hb⟩
               replace HB := Lib.hid (HB.out.trans (hb.mono HB.out.size))
               clear hb))
          go_ret
          exact ⟨rfl, HB.out⟩
      | true =>
        cases bE with
        | false =>
          obtain rfl : r = 0 := hr
          have D3 := Lib.hid (C3 rfl)
          clear C3 C4 C5 C6
          go_enter Tryd.func19, Tryd.ntmps19
          go_wp2_with (first
            | (go_at_call 36
               (with_reducible refine (D1.out _).mono ?_)
               rintro e u1 ⟨rfl, rfl⟩)
            | (go_at_call 38
               (with_reducible refine (D2.out _).mono ?_)
               rintro e u1 ⟨rfl, hb⟩
               replace HB := Lib.hid (HB.out.trans (hb.mono HB.out.size))
               replace H0 := Lib.hid (H0.out.call hb)
               have p3 : u1.cell? ⟨w.heap.size, 0, none⟩ = some (.slice A1 n1 c1) := H0.out.cell rfl
               have p4 : u1.cell? ⟨w.heap.size, 1, none⟩ = some (.slice A2 n2 c2) := H0.out.cell rfl
               clear hb)
            | (go_at_call 39
               (with_reducible refine (D3.out _).mono ?_)
               rintro e u2 ⟨rfl, hb⟩
               replace HB := Lib.hid (HB.out.trans (hb.mono HB.out.size))
               replace H0 := Lib.hid (H0.out.call hb)
               have p5 : u2.cell? ⟨w.heap.size, 0, none⟩ = some (.slice A1 n1 c1) := H0.out.cell rfl
               have p6 : u2.cell? ⟨w.heap.size, 1, none⟩ = some (.slice A2 n2 c2) := H0.out.cell rfl
               clear hb p3 p4)
            | (go_at_call 42
               (with_reducible refine (D4.out _).mono ?_)
               rintro e u3 ⟨h, hh, rfl, hb⟩
               have HH := Lib.hid hh
               have s1 := run_storeB (Hold.new u3 (blkV 0 (fun _ => 0) 0 0 (.slice none 0 0) false) 28 13 rfl).ok (c' := blkV alg h 0 0 (.slice none 0 0) false) rfl blkV_ones
               have s2 := (Hold.new u3 (blkV alg h 0 0 (.slice none 0 0) false) 28 13 rfl).load (T := 28) Tryd.underlying28 rfl (by kernel_rfl)
               have hb2 := HB.out.trans (hb.mono HB.out.size)
               replace HB := Lib.hid (hb2.alloc hb2.size (.cells (blkV alg h 0 0 (.slice none 0 0) false) 28))
               clear hb hb2 hh)
            | (go_at_call 12
               (with_reducible refine (D5.out _ HH.out _).mono ?_)
               rintro e u4 ⟨A, c, rfl, hb⟩
               replace HB := Lib.hid (HB.out.trans (hb.mono HB.out.size))
               clear hb)
            | (go_at_call 18
               (with_reducible refine (D6.out _ HB.out).mono ?_)
               rintro e u5 ⟨A, c, rfl, hb⟩
               replace HB := Lib.hid (HB.out.trans (hb.mono HB.out.size))
               clear hb))
          go_ret
          exact ⟨rfl, HB.out⟩
        | true =>
          cases b1 with
          | false =>
            obtain rfl : r = L2 := hr
            have D3 := Lib.hid (C3 rfl)
            have D6 := Lib.hid (C6 rfl rfl (fun _ => rfl) rfl)
            clear C3 C4 C5 C6
            go_enter Tryd.func19, Tryd.ntmps19
            go_wp2_with (first
              | (go_at_call 36
                 (with_reducible refine (D1.out _).mono ?_)
                 rintro e u1 ⟨rfl, rfl⟩)
              | (go_at_call 38
                 (with_reducible refine (D2.out _).mono ?_)
                 rintro e u1 ⟨rfl, hb⟩
                 replace HB := Lib.hid (HB.out.trans (hb.mono HB.out.size))
                 replace H0 := Lib.hid (H0.out.call hb)
                 have p3 : u1.cell? ⟨w.heap.size, 0, none⟩ = some (.slice A1 n1 c1) := H0.out.cell rfl
                 have p4 : u1.cell? ⟨w.heap.size, 1, none⟩ = some (.slice A2 n2 c2) := H0.out.cell rfl
                 clear hb)
              | (go_at_call 39
                 (with_reducible refine (D3.out _).mono ?_)
                 rintro e u2 ⟨rfl, hb⟩
                 replace HB := Lib.hid (HB.out.trans (hb.mono HB.out.size))
                 replace H0 := Lib.hid (H0.out.call hb)
                 have p5 : u2.cell? ⟨w.heap.size, 0, none⟩ = some (.slice A1 n1 c1) := H0.out.cell rfl
                 have p6 : u2.cell? ⟨w.heap.size, 1, none⟩ = some (.slice A2 n2 c2) := H0.out.cell rfl
                 clear hb p3 p4)
              | (go_at_call 42
                 (with_reducible refine (D4.out _).mono ?_)
                 rintro e u3 ⟨h, hh, rfl, hb⟩
                 have HH := Lib.hid hh
                 have s1 := run_storeB (Hold.new u3 (blkV 0 (fun _ => 0) 0 0 (.slice none 0 0) false) 28 13 rfl).ok (c' := blkV alg h 0 0 (.slice none 0 0) false) rfl blkV_ones
                 have s2 := (Hold.new u3 (blkV alg h 0 0 (.slice none 0 0) false) 28 13 rfl).load (T := 28) Tryd.underlying28 rfl (by kernel_rfl)
                 have hb2 := HB.out.trans (hb.mono HB.out.size)
                 replace HB := Lib.hid (hb2.alloc hb2.size (.cells (blkV alg h 0 0 (.slice none 0 0) false) 28))
                 clear hb hb2 hh)
              | (go_at_call 12
                 (with_reducible refine (D5.out _ HH.out _).mono ?_)
                 rintro e u4 ⟨A, c, rfl, hb⟩
                 replace HB := Lib.hid (HB.out.trans (hb.mono HB.out.size))
                 clear hb)
              | (go_at_call 18
                 (with_reducible refine (D6.out _ HB.out).mono ?_)
                 rintro e u5 ⟨A, c, rfl, hb⟩
                 replace HB := Lib.hid (HB.out.trans (hb.mono HB.out.size))
                 clear hb))
            go_ret
            exact ⟨rfl, HB.out⟩
          | true =>
            obtain rfl : r = L1 := hr
            have D3 := Lib.hid (C3 rfl)
            have D4 := Lib.hid (C4 rfl)
            have D5 := Lib.hid (C5 rfl)
            clear C3 C4 C5 C6
            go_enter Tryd.func19, Tryd.ntmps19
            go_wp2_with (first
              | (go_at_call 36
                 (with_reducible refine (D1.out _).mono ?_)
                 rintro e u1 ⟨rfl, rfl⟩)
              | (go_at_call 38
                 (with_reducible refine (D2.out _).mono ?_)
                 rintro e u1 ⟨rfl, hb⟩
                 replace HB := Lib.hid (HB.out.trans (hb.mono HB.out.size))
                 replace H0 := Lib.hid (H0.out.call hb)
                 have p3 : u1.cell? ⟨w.heap.size, 0, none⟩ = some (.slice A1 n1 c1) := H0.out.cell rfl
                 have p4 : u1.cell? ⟨w.heap.size, 1, none⟩ = some (.slice A2 n2 c2) := H0.out.cell rfl
                 clear hb)
              | (go_at_call 39
                 (with_reducible refine (D3.out _).mono ?_)
                 rintro e u2 ⟨rfl, hb⟩
                 replace HB := Lib.hid (HB.out.trans (hb.mono HB.out.size))
                 replace H0 := Lib.hid (H0.out.call hb)
                 have p5 : u2.cell? ⟨w.heap.size, 0, none⟩ = some (.slice A1 n1 c1) := H0.out.cell rfl
                 have p6 : u2.cell? ⟨w.heap.size, 1, none⟩ = some (.slice A2 n2 c2) := H0.out.cell rfl
                 clear hb p3 p4)
              | (go_at_call 42
                 (with_reducible refine (D4.out _).mono ?_)
                 rintro e u3 ⟨h, hh, rfl, hb⟩
                 have HH := Lib.hid hh
                 have s1 := run_storeB (Hold.new u3 (blkV 0 (fun _ => 0) 0 0 (.slice none 0 0) false) 28 13 rfl).ok (c' := blkV alg h 0 0 (.slice none 0 0) false) rfl blkV_ones
                 have s2 := (Hold.new u3 (blkV alg h 0 0 (.slice none 0 0) false) 28 13 rfl).load (T := 28) Tryd.underlying28 rfl (by kernel_rfl)
                 have hb2 := HB.out.trans (hb.mono HB.out.size)
                 replace HB := Lib.hid (hb2.alloc hb2.size (.cells (blkV alg h 0 0 (.slice none 0 0) false) 28))
                 clear hb hb2 hh)
              | (go_at_call 12
                 (with_reducible refine (D5.out _ HH.out _).mono ?_)
                 rintro e u4 ⟨A, c, rfl, hb⟩
                 replace HB := Lib.hid (HB.out.trans (hb.mono HB.out.size))
                 clear hb)
              | (go_at_call 18
                 (with_reducible refine (D6.out _ HB.out).mono ?_)
                 rintro e u5 ⟨A, c, rfl, hb⟩
                 replace HB := Lib.hid (HB.out.trans (hb.mono HB.out.size))
                 clear hb))
            go_ret
            exact ⟨rfl, HB.out⟩
  | true =>
    obtain rfl : r = 0 := hr
    clear C3 C4 C5 C6
    go_enter Tryd.func19, Tryd.ntmps19
    go_wp2_with (first
      | (go_at_call 36
         (with_reducible refine (D1.out _).mono ?_)
         rintro e u1 ⟨rfl, rfl⟩)
      | (go_at_call 38
         (with_reducible refine (D2.out _).mono ?_)
         rintro e u1 ⟨rfl, hb⟩
         replace HB := Lib.hid (HB.out.trans (hb.mono HB.out.size))
         replace H0 := Lib.hid (H0.out.call hb)
         have p3 : u1.cell? ⟨w.heap.size, 0, none⟩ = some (.slice A1 n1 c1) := H0.out.cell rfl
         have p4 : u1.cell? ⟨w.heap.size, 1, none⟩ = some (.slice A2 n2 c2) := H0.out.cell rfl
         clear hb)
      | (go_at_call 39
         (with_reducible refine (D3.out _).mono ?_)
         rintro e u2 ⟨rfl, hb⟩
         replace HB := Lib.hid (HB.out.trans (hb.mono HB.out.size))
         replace H0 := Lib.hid (H0.out.call hb)
         have p5 : u2.cell? ⟨w.heap.size, 0, none⟩ = some (.slice A1 n1 c1) := H0.out.cell rfl
         have p6 : u2.cell? ⟨w.heap.size, 1, none⟩ = some (.slice A2 n2 c2) := H0.out.cell rfl
         clear hb p3 p4)
      | (go_at_call 42
         (with_reducible refine (D4.out _).mono ?_)
         rintro e u3 ⟨h, hh, rfl, hb⟩
         have HH := Lib.hid hh
         have s1 := run_storeB (Hold.new u3 (blkV 0 (fun _ => 0) 0 0 (.slice none 0 0) false) 28 13 rfl).ok (c' := blkV alg h 0 0 (.slice none 0 0) false) rfl blkV_ones
         have s2 := (Hold.new u3 (blkV alg h 0 0 (.slice none 0 0) false) 28 13 rfl).load (T := 28) Tryd.underlying28 rfl (by kernel_rfl)
         have hb2 := HB.out.trans (hb.mono HB.out.size)
         replace HB := Lib.hid (hb2.alloc hb2.size (.cells (blkV alg h 0 0 (.slice none 0 0) false) 28))
         clear hb hb2 hh)
      | (go_at_call 12
         (with_reducible refine (D5.out _ HH.out _).mono ?_)
         rintro e u4 ⟨A, c, rfl, hb⟩
         replace HB := Lib.hid (HB.out.trans (hb.mono HB.out.size))
         clear hb)
      | (go_at_call 18
         (with_reducible refine (D6.out _ HB.out).mono ?_)
         rintro e u5 ⟨A, c, rfl, hb⟩
         replace HB := Lib.hid (HB.out.trans (hb.mono HB.out.size))
         clear hb))
    go_ret
    exact ⟨rfl, HB.out⟩
end
theorem refSize_any (alg : Int) (A1 : Option Addr) (c1 : Nat) (xs1 : List Nat) (A2 : Option Addr) (c2 : Nat) (xs2 : List Nat) (w : World) (h1 : Words .u8 w A1 xs1) (h2 : Words .u8 w A2 xs2) (l1 : xs1.length ≤ 100000) (l2 : xs2.length ≤ 100000) :
    Calls Tryd.prog 19 #[.int .i64 alg, .agg #[.slice A1 xs1.length c1, .slice A2 xs2.length c2]] w fun e w' => e = .returned (.int .i64 (sizeN (kdN (idx alg)) (sz11 alg) xs1 xs2 : Nat)) ∧ Below w.heap.size w w' := by
  have hle := kdN_le (idx alg)
  have hk := sz_kd alg
  refine refSize_core alg (kdN (idx alg)) A1 xs1.length c1 A2 xs2.length c2 _ (decide (xs1.length ≤ 1000) && decide (xs2.length ≤ 1000)) _ (decide (xs1.length = 0) && decide (xs2.length = 0)) _ (22 + 8 * (sz11 alg / 16) + sz11 alg) (207 + (nameB (kdN (idx alg)) xs1 xs2).length) _ w rfl rfl rfl
    (fun W => refKind_any alg W) (fun W => refRight17_any A1 xs1.length c1 A2 xs2.length c2 W) (fun _ W => refEmpty_any A1 xs1.length c1 A2 xs2.length c2 (by omega) (by omega) W) (fun e1 W => ?_) (fun e1 h hh W => ?_) (fun e0 _ _ e1 W hb => ?_) ?_
  · have hs : sz11 alg ≠ 0 := by rcases hk with ⟨h, _⟩ | ⟨_, h⟩; exact h; exact absurd (by rw [beq_iff_eq] at e1; omega) h
    obtain ⟨a, rfl, h1, h6⟩ : ∃ a : Nat, alg = (a : Int) ∧ 1 ≤ a ∧ a ≤ 6 := by
      rcases sz11_cases alg with ⟨_, h⟩ | ⟨_, h⟩ | ⟨h, _⟩
      · exact ⟨alg.toNat, by omega, by omega, by omega⟩
      · exact ⟨alg.toNat, by omega, by omega, by omega⟩
      · exact absurd h hs
    exact refNew_any a h1 h6 W
  · have hs : sz11 alg ≠ 0 := by rcases hk with ⟨h, _⟩ | ⟨_, h⟩; exact h; exact absurd (by rw [beq_iff_eq] at e1; omega) h
    obtain ⟨a, rfl, h1, h6⟩ : ∃ a : Nat, alg = (a : Int) ∧ 1 ≤ a ∧ a ≤ 6 := by
      rcases sz11_cases alg with ⟨_, h⟩ | ⟨_, h⟩ | ⟨h, _⟩
      · exact ⟨alg.toNat, by omega, by omega, by omega⟩
      · exact ⟨alg.toNat, by omega, by omega, by omega⟩
      · exact absurd h hs
    refine (refBlock20_any a h hh 0 0 (by omega) (by omega) none 0 [] false W (fun i hi => by cases hi) h1 h6 (by simp)).mono ?_
    rintro e w' ⟨A, c, rfl, -, -, k⟩
    rw [blkB_length _ (by simp)]
    exact ⟨A, c, rfl, k⟩
  · have h0 : kdN (idx alg) ≠ 0 := by simpa using e0
    have h1' : kdN (idx alg) ≠ 1 := fun e => by rw [e] at e1; exact absurd e1 (by decide)
    obtain ⟨a, rfl, h7, h14⟩ := idx_sponge (alg := alg) (by omega)
    refine (refSponge20_core a (by omega) (kdN (idx a)) (fun _ => 0) (fun _ => by omega) 0 (by omega) false A1 c1 xs1 A2 c2 xs2 l1 l2 W (h1.below hb (Nat.le_refl _)) (h2.below hb (Nat.le_refl _)) (fun V => refKind_any a V)).mono ?_
    rintro e w' ⟨A, c, rfl, -, -, k⟩
    rw [spgB_len]
    exact ⟨A, c, rfl, k⟩
  · unfold sizeN nmOk
    generalize kdN (idx alg) = kd at *
    generalize sz11 alg = sz at *
    rcases (show kd = 0 ∨ kd = 1 ∨ kd = 2 ∨ kd = 3 ∨ kd = 4 by omega) with rfl | rfl | rfl | rfl | rfl
    all_goals
      rcases hk with ⟨hs, he⟩ | ⟨hs, he⟩
      all_goals first
        | (exact absurd he (by decide))
        | (by_cases a1 : xs1.length = 0 <;> by_cases a2 : xs2.length = 0 <;> by_cases a3 : xs1.length ≤ 1000 <;> by_cases a4 : xs2.length ≤ 1000 <;> simp [hs, a1, a2, a3, a4] <;> omega)
end Go.Proofs.YteiemboopkbdpaaDoor.Sn
end

section
namespace Go.Proofs.YteiemboopkbdpaaDoor
open Go.RowKit
set_option linter.unusedVariables false
set_option linter.unusedSimpArgs false
def eqC (a b c d : Int) : Bool := a == c && b == d
theorem eqC_self (a b : Int) : eqC a b a b = true := by simp [eqC]
theorem run_eqlC (a b c d : Int) (w : World) : (binOp .eql 25 (.agg #[.int .u64 a, .int .u64 b]) (.agg #[.int .u64 c, .int .u64 d])).run Tryd.prog w = .ok (.bool (eqC a b c d)) w := by
  unfold eqC
  by_cases h1 : a = c <;> by_cases h2 : b = d <;> simp [go_sem, h1, h2]
theorem run_neqC (a b c d : Int) (w : World) : (binOp .neq 25 (.agg #[.int .u64 a, .int .u64 b]) (.agg #[.int .u64 c, .int .u64 d])).run Tryd.prog w = .ok (.bool (!eqC a b c d)) w := by
  unfold eqC
  by_cases h1 : a = c <;> by_cases h2 : b = d <;> simp [go_sem, h1, h2]
attribute [go_sem ↓] run_eqlC run_neqC
theorem exec_neqC {ρ : Operand → Value} {dst : Option Tmp} {x y : Operand} {ty : TypeId} {pos : String} {after : Array Edge} {guard : Option (Nat × Bool)} {p q r s : Int} (hx : ρ x = .agg #[.int .u64 p, .int .u64 q]) (hy : ρ y = .agg #[.int .u64 r, .int .u64 s]) (w : World) :
    (execOp ρ ⟨dst, .binOp .neq 25 x y 25, ty, pos, after, guard⟩).run Tryd.prog w = .ok (.value (.bool (!eqC p q r s))) w := by
  simp [execOp, hx, hy, go_sem]
theorem exec_eqlC {ρ : Operand → Value} {dst : Option Tmp} {x y : Operand} {ty : TypeId} {pos : String} {after : Array Edge} {guard : Option (Nat × Bool)} {p q r s : Int} (hx : ρ x = .agg #[.int .u64 p, .int .u64 q]) (hy : ρ y = .agg #[.int .u64 r, .int .u64 s]) (w : World) :
    (execOp ρ ⟨dst, .binOp .eql 25 x y 25, ty, pos, after, guard⟩).run Tryd.prog w = .ok (.value (.bool (eqC p q r s))) w := by
  simp [execOp, hx, hy, go_sem]
theorem wp_neqC {dst : Option Tmp} {x y : Operand} {ty : TypeId} {pos : String} {after : Array Edge} {guard : Option (Nat × Bool)} {a : Act} {w : World} {K : Act → World → Prop} {Q : Exit → Act → World → Prop} {p q r s : Int} (hx : a.eval x = .agg #[.int .u64 p, .int .u64 q]) (hy : a.eval y = .agg #[.int .u64 r, .int .u64 s])
    (h : K (a.put dst (.bool (!eqC p q r s))) w) : Oper.wp Tryd.prog ⟨dst, .binOp .neq 25 x y 25, ty, pos, after, guard⟩ a w K Q := by
  unfold Oper.wp
  rw [exec_neqC hx hy]
  exact h
theorem wp_eqlC {dst : Option Tmp} {x y : Operand} {ty : TypeId} {pos : String} {after : Array Edge} {guard : Option (Nat × Bool)} {a : Act} {w : World} {K : Act → World → Prop} {Q : Exit → Act → World → Prop} {p q r s : Int} (hx : a.eval x = .agg #[.int .u64 p, .int .u64 q]) (hy : a.eval y = .agg #[.int .u64 r, .int .u64 s])
    (h : K (a.put dst (.bool (eqC p q r s))) w) : Oper.wp Tryd.prog ⟨dst, .binOp .eql 25 x y 25, ty, pos, after, guard⟩ a w K Q := by
  unfold Oper.wp
  rw [exec_eqlC hx hy]
  exact h
attribute [go_sem] eqC_self
/-! ### Boxes of structs behind calls -/
theorem box_call {W W' : World} {n k : Nat} (hb : Below W.heap.size W W') (h : RowOk W n k) : RowOk W' n k ∧ rowAt W' n = rowAt W n ∧ n ≠ W'.heap.size := by
  have hr := h.below hb h.lt
  refine ⟨hr, ?_, Nat.ne_of_lt hr.lt⟩
  unfold rowAt
  rw [hb.block n h.lt]
theorem box_old {W W' : World} {o : Obj} {n k : Nat} (hb : Below (W.alloc o).heap.size (W.alloc o) W') (h : RowOk W n k) : RowOk W' n k ∧ rowAt W' n = rowAt W n ∧ n ≠ W'.heap.size := by
  have h1 : RowOk (W.alloc o) n k := (RowOk_alloc_past h.lt).2 h
  have h2 : rowAt (W.alloc o) n = rowAt W n := rowAt_alloc_past h.lt
  rw [← h2]; exact box_call hb h1
theorem box_new {W W' : World} {c : Array Value} {t : TypeId} {k : Nat} (hb : Below (W.alloc (.cells c t)).heap.size (W.alloc (.cells c t)) W') (h : c.size = k) : RowOk W' W.heap.size k ∧ rowAt W' W.heap.size = c ∧ W.heap.size ≠ W'.heap.size := by
  have h1 : RowOk (W.alloc (.cells c t)) W.heap.size k := (RowOk_alloc_at rfl).2 h
  have h2 : rowAt (W.alloc (.cells c t)) W.heap.size = c := rowAt_alloc_at rfl
  have h3 := box_call hb h1
  rw [h2] at h3; exact h3
theorem cOk_back (hi lo n : Nat) (hh : hi < 18446744073709551616) (hl : lo < 18446744073709551616) (hn : n < 18446744073709551616) (h : cOk (numC hi lo + n) = true) :
    cOk (subC (numC (cHi (numC hi lo + n)) (cLo (numC hi lo + n))) n) = true ∧ cHi (subC (numC (cHi (numC hi lo + n)) (cLo (numC hi lo + n))) n) = hi ∧ cLo (subC (numC (cHi (numC hi lo + n)) (cLo (numC hi lo + n))) n) = lo := by
  have h1 : numC hi lo + n < 340282366920938463463374607431768211456 := by unfold cOk at h; exact of_decide_eq_true h
  have h2 : numC (cHi (numC hi lo + n)) (cLo (numC hi lo + n)) = numC hi lo + n := by unfold cHi cLo; rw [if_pos h1, if_pos h1]; unfold numC; omega
  have h3 : numC hi lo < 340282366920938463463374607431768211456 := numC_lt hh hl
  have h4 : subC (numC hi lo + n) n = numC hi lo := by unfold subC; rw [if_pos (by omega)]; omega
  rw [h2, h4]
  unfold cOk cHi cLo
  rw [if_pos h3, if_pos h3, decide_eq_true h3]
  unfold numC
  refine ⟨rfl, by omega, by omega⟩
end Go.Proofs.YteiemboopkbdpaaDoor
end
