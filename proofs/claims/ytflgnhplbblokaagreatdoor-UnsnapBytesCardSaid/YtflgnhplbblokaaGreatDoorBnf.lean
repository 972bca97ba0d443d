/- Layer 20: Size. | Layer 20: the document's Right. | Layer 20: the document's own snapshot of a hash of blocks. | Layer 17: prefixes. | Layer 20: the document's own snapshot of a sponge. | Layer 20: the document's Size. | Layer 4: '==' of counts, boxes of structs behind calls. No law is named here. | Layers 11 and 20: are two states the same? | Layer 20's statements: SnapBlocks. | Layer 20's statements: SnapSizes, SnapSponges. | Layer 20's statements: SnapSponges. | Layer 20: unlike states have unlike snapshots. | Layer 21: what a snapshot's bytes say: of a hash of blocks. | Layer 21: what a snapshot's bytes say: of a sponge. | Layer 21: hold; a state's parts, stored. | Layer 21: a state of a hash of blocks, read. -/
import Derived.Test.YtflgnhplbblokaaGreatDoorBne
import Derived.Test.YtflgnhplbblokaaGreatDoorBnc
import Derived.WalkMore
import Derived.Deep.LoopGhost
import Derived.Test.YtflgnhplbblokaaGreatDoorBnd
import Derived.Deep.AppendLies
import Derived.Test.YtflgnhplbblokaaGreatDoorBnb
import Derived.Deep.RegionHeld3
import Derived.Deep.MidRow
section
namespace Go.Proofs.YtflgnhplbblokaaGreatDoor.Sn
open Go.RowKit Rw Mk Cd L64 Al Ln
set_option linter.unusedVariables false
set_option linter.unusedSimpArgs false
theorem nameB_len (kd : Nat) (xs1 xs2 : List Nat) : (nameB kd xs1 xs2).length = if kd = 4 then (textN xs1).length + (textN xs2).length else 0 := by
  unfold nameB; split <;> simp
theorem spgB_len (a kd : Nat) (f : Nat → Nat) (p : Nat) (rd : Bool) (xs1 xs2 : List Nat) : (spgB a kd f p rd xs1 xs2).length = 207 + (nameB kd xs1 xs2).length := by
  simp only [spgB, headN, bytesN, List.length_append, List.length_cons, List.length_nil, List.length_map, List.length_range]; omega
def sizeN (kd sz : Nat) (xs1 xs2 : List Nat) : Nat := if nmOk kd xs1.length xs2.length then (if sz ≠ 0 then 22 + 8 * (sz / 16) + sz else if 2 ≤ kd then 207 + (nameB kd xs1 xs2).length else 0) else 0
theorem sz_kd (alg : Int) : (sz11 alg ≠ 0 ∧ kdN (idx alg) = 1) ∨ (sz11 alg = 0 ∧ kdN (idx alg) ≠ 1) := by
  rcases sz11_cases alg with ⟨hs, h'⟩ | ⟨hs, h'⟩ | ⟨hs, h'⟩
  · left; rw [hs]; rcases h' with rfl | rfl <;> exact ⟨by decide, rfl⟩
  · left; rw [hs]; rcases h' with rfl | rfl | rfl | rfl <;> exact ⟨by decide, rfl⟩
  · right
    refine ⟨hs, ?_⟩
    by_cases h0 : alg < 0
    · rw [idx_out (by omega)]; decide
    · by_cases h1 : 15 ≤ alg
      · rw [idx_out (by omega)]; decide
      · obtain ⟨a, rfl⟩ := Int.eq_ofNat_of_zero_le (show 0 ≤ alg by omega)
        rw [idx_nat (by omega)]
        match a, h1, h' with
        | 0, _, _ | 7, _, _ | 8, _, _ | 9, _, _ | 10, _, _ | 11, _, _ | 12, _, _ | 13, _, _ | 14, _, _ => decide
        | 1, _, h | 2, _, h | 3, _, h | 4, _, h | 5, _, h | 6, _, h => omega
        | n + 15, h, _ => omega
theorem right11_zero (alg : Int) : right11 alg (fun _ => 0) (numC 0 0) 0 = decide (sz11 alg ≠ 0) := by
  unfold right11 fitsB modC numC low32
  rcases sz11_cases alg with ⟨hs, -⟩ | ⟨hs, -⟩ | ⟨hs, -⟩ <;> rw [hs] <;> decide
theorem bk_pos {i : Nat} (h : 2 ≤ kdN i) : 0 < bkN i := by
  revert h
  match i with
  | 0 | 1 | 2 | 3 | 4 | 5 | 6 | 7 | 8 | 9 | 10 | 11 | 12 | 13 | 14 => decide
  | i + 15 => simp [kdN, kdL]
theorem right20_zero (alg : Int) (n1 n2 : Nat) (h : nmOk (kdN (idx alg)) n1 n2 = true) : right20 (kdN (idx alg)) (bkN (idx alg)) 0 false n1 n2 = decide (2 ≤ kdN (idx alg)) := by
  unfold right20 placeOk
  rw [h]
  by_cases h2 : 2 ≤ kdN (idx alg)
  · have := bk_pos h2
    simp [h2, this]
  · simp [h2]
end Go.Proofs.YtflgnhplbblokaaGreatDoor.Sn
end

section
namespace Go.Proofs.YtflgnhplbblokaaGreatDoor.Sn
open Go.RowKit Rw Mk Cd L64 Al
set_option linter.unusedVariables false
set_option linter.unusedSimpArgs false
section
attribute [local go_sem ↓] loadSp
set_option maxRecDepth 100000 in
set_option maxHeartbeats 4000000 in
theorem refRightS_core (alg p : Int) (rd : Bool) (kd bk : Nat) (u : Array Value) (A1 : Option Addr) (n1 c1 : Nat) (A2 : Option Addr) (n2 c2 : Nat) (b1 b2 b3 b4 b5 b6 b7 b8 : Bool) (w : World) (husz : u.size = 30)
    (k0 : u[0]? = some (.int .i64 alg)) (k26 : u[26]? = some (.int .i64 p)) (k27 : u[27]? = some (.bool rd)) (k28 : u[28]? = some (.slice A1 n1 c1)) (k29 : u[29]? = some (.slice A2 n2 c2))
    (e1 : decide ((kd : Int) < 2) = b1) (e2 : decide (p < 0) = b2) (e3 : decide ((bk : Int) < p) = b3) (e4 : (p == (bk : Int)) = b4) (e5 : ((kd : Int) == 2) = b5) (e6 : ((kd : Int) == 4) = b6)
    (C1 : ∀ W, Calls Tryz.prog 31 #[.int .i64 alg] W fun e w' => e = .returned (.int .i64 (kd : Nat)) ∧ W = w')
    (C2 : ∀ W, Calls Tryz.prog 45 #[.int .i64 alg] W fun e w' => e = .returned (.int .i64 (bk : Nat)) ∧ W = w')
    (C3 : ∀ W, Calls Tryz.prog 46 #[.agg #[.slice A1 n1 c1, .slice A2 n2 c2]] W fun e w' => e = .returned (.bool b7) ∧ Below W.heap.size W w')
    (C4 : ∀ W, Calls Tryz.prog 47 #[.agg #[.slice A1 n1 c1, .slice A2 n2 c2]] W fun e w' => e = .returned (.bool b8) ∧ Below W.heap.size W w') :
    Calls Tryz.prog 22 #[.agg u] w fun e w' => e = .returned (.bool (!(b1 || b2 || b3 || (b4 && !rd) || (rd && b5)) && (b7 && (b6 || b8)))) ∧ Below w.heap.size w w' := by
  have hb0 : Below w.heap.size w (w.alloc (.cells u 38)) := (Below.refl _ w).alloc (Nat.le_refl _) _
  have hh := Hold.new w u 38 30 husz
  have HB := Lib.hid (below_drew hb0)
  have D1 := Lib.hid C1
  have D2 := Lib.hid C2
  have D3 := Lib.hid C3
  have D4 := Lib.hid C4
  have K28 := Lib.hid k28
  have K29 := Lib.hid k29
  have hhd := hh.drew
  obtain ⟨U, hU⟩ : ∃ U, U = (w.alloc (.cells u 38)).drew := ⟨_, rfl⟩
  rw [← hU] at hhd HB
  have H0 := Lib.hid hhd
  have q0 : U.cell? ⟨w.heap.size, 0, none⟩ = some (.int .i64 alg) := hhd.cell k0
  have q1 : U.cell? ⟨w.heap.size, 26, none⟩ = some (.int .i64 p) := hhd.cell k26
  have q2 : U.cell? ⟨w.heap.size, 27, none⟩ = some (.bool rd) := hhd.cell k27
  have q3 : U.cell? ⟨w.heap.size, 28, none⟩ = some (.slice A1 n1 c1) := hhd.cell k28
  have q4 : U.cell? ⟨w.heap.size, 29, none⟩ = some (.slice A2 n2 c2) := hhd.cell k29
  have HU := Lib.hid hU.symm
  clear hb0 hh husz k0 k26 k27 k28 k29 hhd hU C1 C2 C3 C4
  go_enter Tryz.func22, Tryz.ntmps22
  go_wp2_with fail
  refine still_all (by kernel_rfl) (by kernel_rfl) U HU.out ?_
  repeat (first | still_step | (still_call (still_of (D1.out _))) | (still_call (still_of (D2.out _))))
  refine wpStill_nil ?_
  cases b1 with
  | false =>
    cases b2 with
    | false =>
      cases b3 with
      | false =>
        cases b4 with
        | false =>
          cases rd with
          | false =>
            cases b7 with
            | false =>
              go_wp2_with (first
                | (go_at_call 46
                   (with_reducible refine (D3.out _).mono ?_)
                   rintro e u1 ⟨rfl, hb⟩
                   have HB1 := Lib.hid (HB.out.trans (hb.mono HB.out.size))
                   have H1 := Lib.hid (H0.out.call hb)
                   have p3 : u1.cell? ⟨w.heap.size, 28, none⟩ = some (.slice A1 n1 c1) := H1.out.cell K28.out
                   have p4 : u1.cell? ⟨w.heap.size, 29, none⟩ = some (.slice A2 n2 c2) := H1.out.cell K29.out
                   clear hb q0 q1 q2 q3 q4)
                | (go_at_call 47
                   (with_reducible refine (D4.out _).mono ?_)
                   rintro e u2 ⟨rfl, hb⟩
                   replace HB1 := Lib.hid (HB1.out.trans (hb.mono HB1.out.size))
                   clear hb))
              go_ret
              refine ⟨?_, HB1.out⟩
              simp
            | true =>
              cases b6 with
              | false =>
                go_wp2_with (first
                  | (go_at_call 46
                     (with_reducible refine (D3.out _).mono ?_)
                     rintro e u1 ⟨rfl, hb⟩
                     have HB1 := Lib.hid (HB.out.trans (hb.mono HB.out.size))
                     have H1 := Lib.hid (H0.out.call hb)
                     have p3 : u1.cell? ⟨w.heap.size, 28, none⟩ = some (.slice A1 n1 c1) := H1.out.cell K28.out
                     have p4 : u1.cell? ⟨w.heap.size, 29, none⟩ = some (.slice A2 n2 c2) := H1.out.cell K29.out
                     clear hb q0 q1 q2 q3 q4)
                  | (go_at_call 47
                     (with_reducible refine (D4.out _).mono ?_)
                     rintro e u2 ⟨rfl, hb⟩
                     replace HB1 := Lib.hid (HB1.out.trans (hb.mono HB1.out.size))
                     clear hb))
                go_ret
                refine ⟨?_, HB1.out⟩
                simp
              | true =>
                go_wp2_with (first
                  | (go_at_call 46
                     (with_reducible refine (D3.out _).mono ?_)
                     rintro e u1 ⟨rfl, hb⟩
                     have HB1 := Lib.hid (HB.out.trans (hb.mono HB.out.size))
                     have H1 := Lib.hid (H0.out.call hb)
                     have p3 : u1.cell? ⟨w.heap.size, 28, none⟩ = some (.slice A1 n1 c1) := H1.out.cell K28.out
                     have p4 : u1.cell? ⟨w.heap.size, 29, none⟩ = some (.slice A2 n2 c2) := H1.out.cell K29.out
                     clear hb q0 q1 q2 q3 q4)
                  | (go_at_call 47
                     (with_reducible refine (D4.out _).mono ?_)
                     rintro e u2 ⟨rfl, hb⟩
                     replace HB1 := Lib.hid (HB1.out.trans (hb.mono HB1.out.size))
                     clear hb))
                go_ret
                refine ⟨?_, HB1.out⟩
                simp
          | true =>
            cases b5 with
            | false =>
              cases b7 with
              | false =>
                go_wp2_with (first
                  | (go_at_call 46
                     (with_reducible refine (D3.out _).mono ?_)
                     rintro e u1 ⟨rfl, hb⟩
                     have HB1 := Lib.hid (HB.out.trans (hb.mono HB.out.size))
                     have H1 := Lib.hid (H0.out.call hb)
                     have p3 : u1.cell? ⟨w.heap.size, 28, none⟩ = some (.slice A1 n1 c1) := H1.out.cell K28.out
                     have p4 : u1.cell? ⟨w.heap.size, 29, none⟩ = some (.slice A2 n2 c2) := H1.out.cell K29.out
                     clear hb q0 q1 q2 q3 q4)
                  | (go_at_call 47
                     (with_reducible refine (D4.out _).mono ?_)
                     rintro e u2 ⟨rfl, hb⟩
                     replace HB1 := Lib.hid (HB1.out.trans (hb.mono HB1.out.size))
                     clear hb))
                go_ret
                refine ⟨?_, HB1.out⟩
                simp
              | true =>
                cases b6 with
                | false =>
                  go_wp2_with (first
                    | (go_at_call 46
                       (with_reducible refine (D3.out _).mono ?_)
                       rintro e u1 ⟨rfl, hb⟩
                       have HB1 := Lib.hid (HB.out.trans (hb.mono HB.out.size))
                       have H1 := Lib.hid (H0.out.call hb)
                       have p3 : u1.cell? ⟨w.heap.size, 28, none⟩ = some (.slice A1 n1 c1) := H1.out.cell K28.out
                       have p4 : u1.cell? ⟨w.heap.size, 29, none⟩ = some (.slice A2 n2 c2) := H1.out.cell K29.out
                       clear hb q0 q1 q2 q3 q4)
                    | (go_at_call 47
                       (with_reducible refine (D4.out _).mono ?_)
                       rintro e u2 ⟨rfl, hb⟩
                       replace HB1 := Lib.hid (HB1.out.trans (hb.mono HB1.out.size))
                       clear hb))
                  go_ret
                  refine ⟨?_, HB1.out⟩
                  simp
                | true =>
                  go_wp2_with (first
                    | (go_at_call 46
                       (with_reducible refine (D3.out _).mono ?_)
                       rintro e u1 ⟨rfl, hb⟩
                       have HB1 := Lib.hid (HB.out.trans (hb.mono HB.out.size))
                       have H1 := Lib.hid (H0.out.call hb)
                       have p3 : u1.cell? ⟨w.heap.size, 28, none⟩ = some (.slice A1 n1 c1) := H1.out.cell K28.out
                       have p4 : u1.cell? ⟨w.heap.size, 29, none⟩ = some (.slice A2 n2 c2) := H1.out.cell K29.out
                       clear hb q0 q1 q2 q3 q4)
                    | (go_at_call 47
                       (with_reducible refine (D4.out _).mono ?_)
                       rintro e u2 ⟨rfl, hb⟩
                       replace HB1 := Lib.hid (HB1.out.trans (hb.mono HB1.out.size))
                       clear hb))
                  go_ret
                  refine ⟨?_, HB1.out⟩
                  simp
            | true =>
              go_wp2_with (first
                | (go_at_call 46
                   (with_reducible refine (D3.out _).mono ?_)
                   rintro e u1 ⟨rfl, hb⟩
                   have HB1 := Lib.hid (HB.out.trans (hb.mono HB.out.size))
                   have H1 := Lib.hid (H0.out.call hb)
                   have p3 : u1.cell? ⟨w.heap.size, 28, none⟩ = some (.slice A1 n1 c1) := H1.out.cell K28.out
                   have p4 : u1.cell? ⟨w.heap.size, 29, none⟩ = some (.slice A2 n2 c2) := H1.out.cell K29.out
                   clear hb q0 q1 q2 q3 q4)
                | (go_at_call 47
                   (with_reducible refine (D4.out _).mono ?_)
                   rintro e u2 ⟨rfl, hb⟩
                   replace HB1 := Lib.hid (HB1.out.trans (hb.mono HB1.out.size))
                   clear hb))
              go_ret
              refine ⟨?_, HB.out⟩
              simp
        | true =>
          cases rd with
          | false =>
            go_wp2_with (first
              | (go_at_call 46
                 (with_reducible refine (D3.out _).mono ?_)
                 rintro e u1 ⟨rfl, hb⟩
                 have HB1 := Lib.hid (HB.out.trans (hb.mono HB.out.size))
                 have H1 := Lib.hid (H0.out.call hb)
                 have p3 : u1.cell? ⟨w.heap.size, 28, none⟩ = some (.slice A1 n1 c1) := H1.out.cell K28.out
                 have p4 : u1.cell? ⟨w.heap.size, 29, none⟩ = some (.slice A2 n2 c2) := H1.out.cell K29.out
                 clear hb q0 q1 q2 q3 q4)
              | (go_at_call 47
                 (with_reducible refine (D4.out _).mono ?_)
                 rintro e u2 ⟨rfl, hb⟩
                 replace HB1 := Lib.hid (HB1.out.trans (hb.mono HB1.out.size))
                 clear hb))
            go_ret
            refine ⟨?_, HB.out⟩
            simp
          | true =>
            cases b5 with
            | false =>
              cases b7 with
              | false =>
                go_wp2_with (first
                  | (go_at_call 46
                     (with_reducible refine (D3.out _).mono ?_)
                     rintro e u1 ⟨rfl, hb⟩
                     have HB1 := Lib.hid (HB.out.trans (hb.mono HB.out.size))
                     have H1 := Lib.hid (H0.out.call hb)
                     have p3 : u1.cell? ⟨w.heap.size, 28, none⟩ = some (.slice A1 n1 c1) := H1.out.cell K28.out
                     have p4 : u1.cell? ⟨w.heap.size, 29, none⟩ = some (.slice A2 n2 c2) := H1.out.cell K29.out
                     clear hb q0 q1 q2 q3 q4)
                  | (go_at_call 47
                     (with_reducible refine (D4.out _).mono ?_)
                     rintro e u2 ⟨rfl, hb⟩
                     replace HB1 := Lib.hid (HB1.out.trans (hb.mono HB1.out.size))
                     clear hb))
                go_ret
                refine ⟨?_, HB1.out⟩
                simp
              | true =>
                cases b6 with
                | false =>
                  go_wp2_with (first
                    | (go_at_call 46
                       (with_reducible refine (D3.out _).mono ?_)
                       rintro e u1 ⟨rfl, hb⟩
                       have HB1 := Lib.hid (HB.out.trans (hb.mono HB.out.size))
                       have H1 := Lib.hid (H0.out.call hb)
                       have p3 : u1.cell? ⟨w.heap.size, 28, none⟩ = some (.slice A1 n1 c1) := H1.out.cell K28.out
                       have p4 : u1.cell? ⟨w.heap.size, 29, none⟩ = some (.slice A2 n2 c2) := H1.out.cell K29.out
                       clear hb q0 q1 q2 q3 q4)
                    | (go_at_call 47
                       (with_reducible refine (D4.out _).mono ?_)
                       rintro e u2 ⟨rfl, hb⟩
                       replace HB1 := Lib.hid (HB1.out.trans (hb.mono HB1.out.size))
                       clear hb))
                  go_ret
                  refine ⟨?_, HB1.out⟩
                  simp
                | true =>
                  go_wp2_with (first
                    | (go_at_call 46
                       (with_reducible refine (D3.out _).mono ?_)
                       rintro e u1 ⟨rfl, hb⟩
                       have HB1 := Lib.hid (HB.out.trans (hb.mono HB.out.size))
                       have H1 := Lib.hid (H0.out.call hb)
                       have p3 : u1.cell? ⟨w.heap.size, 28, none⟩ = some (.slice A1 n1 c1) := H1.out.cell K28.out
                       have p4 : u1.cell? ⟨w.heap.size, 29, none⟩ = some (.slice A2 n2 c2) := H1.out.cell K29.out
                       clear hb q0 q1 q2 q3 q4)
                    | (go_at_call 47
                       (with_reducible refine (D4.out _).mono ?_)
                       rintro e u2 ⟨rfl, hb⟩
                       replace HB1 := Lib.hid (HB1.out.trans (hb.mono HB1.out.size))
                       clear hb))
                  go_ret
                  refine ⟨?_, HB1.out⟩
                  simp
            | true =>
              go_wp2_with (first
                | (go_at_call 46
                   (with_reducible refine (D3.out _).mono ?_)
                   rintro e u1 ⟨rfl, hb⟩
                   have HB1 := Lib.hid (HB.out.trans (hb.mono HB.out.size))
                   have H1 := Lib.hid (H0.out.call hb)
                   have p3 : u1.cell? ⟨w.heap.size, 28, none⟩ = some (.slice A1 n1 c1) := H1.out.cell K28.out
                   have p4 : u1.cell? ⟨w.heap.size, 29, none⟩ = some (.slice A2 n2 c2) := H1.out.cell K29.out
                   clear hb q0 q1 q2 q3 q4)
                | (go_at_call 47
                   (with_reducible refine (D4.out _).mono ?_)
                   rintro e u2 ⟨rfl, hb⟩
                   replace HB1 := Lib.hid (HB1.out.trans (hb.mono HB1.out.size))
                   clear hb))
              go_ret
              refine ⟨?_, HB.out⟩
              simp
      | true =>
        go_wp2_with (first
          | (go_at_call 46
             (with_reducible refine (D3.out _).mono ?_)
             rintro e u1 ⟨rfl, hb⟩
             have HB1 := Lib.hid (HB.out.trans (hb.mono HB.out.size))
             have H1 := Lib.hid (H0.out.call hb)
             have p3 : u1.cell? ⟨w.heap.size, 28, none⟩ = some (.slice A1 n1 c1) := H1.out.cell K28.out
             have p4 : u1.cell? ⟨w.heap.size, 29, none⟩ = some (.slice A2 n2 c2) := H1.out.cell K29.out
             clear hb q0 q1 q2 q3 q4)
          | (go_at_call 47
             (with_reducible refine (D4.out _).mono ?_)
             rintro e u2 ⟨rfl, hb⟩
             replace HB1 := Lib.hid (HB1.out.trans (hb.mono HB1.out.size))
             clear hb))
        go_ret
        refine ⟨?_, HB.out⟩
        simp
    | true =>
      go_wp2_with (first
        | (go_at_call 46
           (with_reducible refine (D3.out _).mono ?_)
           rintro e u1 ⟨rfl, hb⟩
           have HB1 := Lib.hid (HB.out.trans (hb.mono HB.out.size))
           have H1 := Lib.hid (H0.out.call hb)
           have p3 : u1.cell? ⟨w.heap.size, 28, none⟩ = some (.slice A1 n1 c1) := H1.out.cell K28.out
           have p4 : u1.cell? ⟨w.heap.size, 29, none⟩ = some (.slice A2 n2 c2) := H1.out.cell K29.out
           clear hb q0 q1 q2 q3 q4)
        | (go_at_call 47
           (with_reducible refine (D4.out _).mono ?_)
           rintro e u2 ⟨rfl, hb⟩
           replace HB1 := Lib.hid (HB1.out.trans (hb.mono HB1.out.size))
           clear hb))
      go_ret
      refine ⟨?_, HB.out⟩
      simp
  | true =>
    go_wp2_with (first
      | (go_at_call 46
         (with_reducible refine (D3.out _).mono ?_)
         rintro e u1 ⟨rfl, hb⟩
         have HB1 := Lib.hid (HB.out.trans (hb.mono HB.out.size))
         have H1 := Lib.hid (H0.out.call hb)
         have p3 : u1.cell? ⟨w.heap.size, 28, none⟩ = some (.slice A1 n1 c1) := H1.out.cell K28.out
         have p4 : u1.cell? ⟨w.heap.size, 29, none⟩ = some (.slice A2 n2 c2) := H1.out.cell K29.out
         clear hb q0 q1 q2 q3 q4)
      | (go_at_call 47
         (with_reducible refine (D4.out _).mono ?_)
         rintro e u2 ⟨rfl, hb⟩
         replace HB1 := Lib.hid (HB1.out.trans (hb.mono HB1.out.size))
         clear hb))
    go_ret
    refine ⟨?_, HB.out⟩
    simp
end
theorem refRight20_any (alg : Int) (f : Nat → Nat) (p : Int) (rd : Bool) (A1 : Option Addr) (n1 c1 : Nat) (A2 : Option Addr) (n2 c2 : Nat) (w : World) (h1 : n1 ≤ 1000000) (h2 : n2 ≤ 1000000) :
    Calls Tryz.prog 22 #[.agg (spV alg f p rd (.slice A1 n1 c1) (.slice A2 n2 c2))] w fun e w' => e = .returned (.bool (right20 (kdN (idx alg)) (bkN (idx alg)) p rd n1 n2)) ∧ Below w.heap.size w w' := by
  have hle := kdN_le (idx alg)
  have key : right20 (kdN (idx alg)) (bkN (idx alg)) p rd n1 n2 = (!(decide ((kdN (idx alg) : Int) < 2) || decide (p < 0) || decide ((bkN (idx alg) : Int) < p) || ((p == (bkN (idx alg) : Int)) && !rd) || (rd && ((kdN (idx alg) : Int) == 2))) && ((decide (n1 ≤ 1000) && decide (n2 ≤ 1000)) && (((kdN (idx alg) : Int) == 4) || (decide (n1 = 0) && decide (n2 = 0))))) := by
    generalize kdN (idx alg) = kd at *
    generalize bkN (idx alg) = bk at *
    unfold right20 placeOk nmOk
    rw [Bool.eq_iff_iff]
    by_cases h4 : kd = 4
    · subst h4
      cases rd <;> simp <;> omega
    · rw [if_neg h4]
      cases rd <;> simp <;> omega
  rw [key]
  exact refRightS_core alg p rd _ _ _ A1 n1 c1 A2 n2 c2 _ _ _ _ _ _ _ _ w spV_size spV_0 spV_26 spV_27 spV_28 spV_29 rfl rfl rfl rfl rfl rfl
    (fun W => refKind_any alg W) (fun W => refBlock_any alg W) (fun W => refRight17_any A1 n1 c1 A2 n2 c2 W) (fun W => refEmpty_any A1 n1 c1 A2 n2 c2 h1 h2 W)
end Go.Proofs.YtflgnhplbblokaaGreatDoor.Sn
end

section
namespace Go.Proofs.YtflgnhplbblokaaGreatDoor.Sn
open Go.RowKit Rw Mk Cd L64 Al
set_option linter.unusedVariables false
set_option linter.unusedSimpArgs false
structure AC (W1 : World) (v : Value) (ys : List Nat) (W : World) : Prop where
  below : Below W1.heap.size W1 W
  row : Row .u8 5 W1.heap.size W v ys
theorem AC.size {W1 W : World} {v : Value} {ys : List Nat} (h : AC W1 v ys W) : W1.heap.size ≤ W.heap.size := h.below.size
theorem AC.call {W1 W W' : World} {v : Value} {ys : List Nat} (h : AC W1 v ys W) (hb : Below W.heap.size W W') : AC W1 v ys W' := ⟨h.below.trans (hb.mono h.size), h.row.below hb (Nat.le_refl _)⟩
theorem AC.app {W1 W W' : World} {v v' : Value} {ys zs : List Nat} (h : AC W1 v ys W) (hr : Row .u8 5 W1.heap.size W' v' zs) (hg : W.grownBy W' v.ownBlock) : AC W1 v' zs W' := ⟨Row.grown0 h.row h.below h.size hg, hr⟩
theorem AC.of_gives {W1 W W' : World} {v : Value} {ys : List Nat} (hb0 : Below W1.heap.size W1 W) (hr : Row .u8 5 W.heap.size W' v ys) (hb : Below W.heap.size W W') : AC W1 v ys W' := ⟨hb0.trans (hb.mono hb0.size), hr.mono hb0.size⟩
theorem row_new (w : World) (xs : List Nat) (n : Nat) (hn : xs.length = n) (hm : n ≤ maxLen) {c : Array Value} (h : c = (cellsOf .u8 xs).toArray) {base : Nat} (hb : base ≤ w.heap.size) : Row .u8 5 base (w.alloc (.cells c 5)) (.slice (some ⟨w.heap.size, 0, none⟩) n n) xs := by
  subst hn; subst h
  exact ⟨by rw [cellsOf_length, Nat.mul_one], .inr ⟨w.heap.size, xs.length, _, rfl, hb, heap_alloc_new w _, Nat.le_refl _, hm, by simp [cellsOf_length], by simp [cellsOf_length, List.take_of_length_le]⟩⟩
set_option maxRecDepth 20000 in
theorem refHead_any (a : Nat) (ha : a < 256) (fl : Bool) (w : World) : Calls Tryz.prog 62 #[.int .i64 (a : Nat), .bool fl] w (Gives .u8 5 (headN a fl) w) := by
  have hwr : IntKind.u8.wrap (a : Int) = (a : Int) := by rw [IntKind.wrap_u8]; omega
  have hwr2 : (a : Int) % 256 = (a : Int) := by omega
  have HR : ∀ y : Nat, Hid (Row .u8 5 w.heap.size (w.alloc (.cells #[.int .u8 67, .int .u8 82, .int .u8 66, .int .u8 49, .int .u8 (a : Nat), .int .u8 (y : Nat)] 5)) (.slice (some ⟨w.heap.size, 0, none⟩) 6 6) [67, 82, 66, 49, a, y]) := fun y => row_new w _ 6 rfl (by unfold maxLen; omega) rfl (Nat.le_refl _)
  have HB := Lib.hid (fun o => (Below.refl w.heap.size w).alloc (Nat.le_refl _) o)
  cases fl
  · have H0 := HR 0
    clear HR
    go_enter Tryz.func62, Tryz.ntmps62
    go_wp2
    go_ret
    exact Gives.mk H0.out (HB.out _)
  · have H0 := HR 1
    clear HR
    go_enter Tryz.func62, Tryz.ntmps62
    go_wp2
    go_ret
    exact Gives.mk H0.out (HB.out _)
theorem putBig_snoc (m : Nat) (h : Nat → Nat) (k : Nat) : putBig m ((List.range (k + 1)).map h) = putBig m ((List.range k).map h) ++ beB m (h k) := by
  simp [putBig, List.range_succ]
theorem rep_snoc (k : Nat) : List.replicate (k + 1) (0 : Nat) = List.replicate k 0 ++ [0] := by
  rw [List.replicate_succ']
set_option maxRecDepth 100000 in
set_option maxHeartbeats 4000000 in
theorem refBlock20_core (a : Nat) (ha : a < 256) (sz m : Nat) (hsz : sz = 16 * m) (hm8 : m ≤ 8) (h : Nat → Nat) (hh : ∀ i, h i < 18446744073709551616) (hi lo : Nat) (hhi : hi < 18446744073709551616) (hl : lo < 18446744073709551616) (A : Option Addr) (c : Nat) (xs : List Nat) (fl : Bool) (hx : xs.length ≤ sz) (w : World) (hw : Words .u8 w A xs)
    (C0 : ∀ W, Calls Tryz.prog 23 #[.int .i64 (a : Nat)] W fun e w' => e = .returned (.int .i64 (sz : Nat)) ∧ W = w') :
    Calls Tryz.prog 30 #[.agg (blkV a h hi lo (.slice A xs.length c) fl)] w (Gives .u8 5 (blkB a sz h hi lo xs fl) w) := by
  obtain ⟨i0, hi0, hz0, hz1, hz2⟩ := info_parts u8_info2
  have HC0 := Lib.hid C0
  have HH := Lib.hid (fun W => refHead_any a ha fl W)
  have HG1 : Hid (∀ W, Calls Tryz.prog 63 #[.int .u64 (hi : Nat), .int .i64 8] W (Gives .u8 5 (beB 8 hi) W)) := fun W => refBig_any hi hhi 8 (by omega) W
  have HG2 : Hid (∀ W, Calls Tryz.prog 63 #[.int .u64 (lo : Nat), .int .i64 8] W (Gives .u8 5 (beB 8 lo) W)) := fun W => refBig_any lo hl 8 (by omega) W
  have HG3 := Lib.hid (fun k W => refBig_any (h k) (hh k) m (by omega) W)
  have H0 : Hold (w.alloc (.cells (blkV a h hi lo (.slice A xs.length c) fl) 29)) w.heap.size 13 (blkV a h hi lo (.slice A xs.length c) fl) := Hold.new w _ _ 13 rfl
  have hb0 : Below w.heap.size w (w.alloc (.cells (blkV a h hi lo (.slice A xs.length c) fl) 29)) := (Below.refl _ w).alloc (Nat.le_refl _) _
  have H0' := Lib.hid H0
  have HB0 := Lib.hid hb0
  have HW := Lib.hid (hw.below hb0 (Nat.le_refl _))
  have c0 : (w.alloc (.cells (blkV a h hi lo (.slice A xs.length c) fl) 29)).cell? ⟨w.heap.size, 0, none⟩ = some (.int .i64 (a : Nat)) := H0.cell rfl
  have hq : (sz : Int) / 16 = (m : Int) := by omega
  have hq2 : (sz : Int).tdiv 16 = (m : Int) := by rw [Int.tdiv_eq_ediv_of_nonneg (by omega)]; exact hq
  have HKK := Lib.hid (fun k (hk : k < 8) => blk_h (alg := (a : Int)) (h := h) (hi := hi) (lo := lo) (s := .slice A xs.length c) (fl := fl) hk)
  have K9 : Hid ((blkV a h hi lo (.slice A xs.length c) fl)[9]? = some (.int .u64 (hi : Nat))) := rfl
  have K10 : Hid ((blkV a h hi lo (.slice A xs.length c) fl)[10]? = some (.int .u64 (lo : Nat))) := rfl
  have K11 : Hid ((blkV a h hi lo (.slice A xs.length c) fl)[11]? = some (.slice A xs.length c)) := rfl
  have K12 : Hid ((blkV a h hi lo (.slice A xs.length c) fl)[12]? = some (.bool fl)) := rfl
  have K0 : Hid ((blkV a h hi lo (.slice A xs.length c) fl)[0]? = some (.int .i64 (a : Nat))) := rfl
  have l1 : (headN a fl).length ≤ 6 := Nat.le_refl 6
  have l2 := Nat.le_of_eq (beB_length 8 hi)
  have l3 := Nat.le_of_eq (beB_length 8 lo)
  have hs128 : sz ≤ 128 := by omega
  have HT : Hid (∀ zs, zs = headN a fl ++ beB 8 hi ++ beB 8 lo ++ putBig m ((List.range 8).map h) ++ xs ++ List.replicate (sz - xs.length) 0 → zs = blkB a sz h hi lo xs fl) := fun zs hz => by
    rw [hz, blkB, show sz / 16 = m by omega]
    simp [putBig, hL]
  clear hw C0 hb0 hh hhi hl H0 hsz
  generalize blkB a sz h hi lo xs fl = tot at *
  generalize headN a fl = zh at *
  generalize beB 8 hi = zi at *
  generalize beB 8 lo = zl at *
  generalize blkV a h hi lo (.slice A xs.length c) fl = u at *
  go_enter Tryz.func30, Tryz.ntmps30
  go_wp2_with fail
  refine (HC0.out _).mono ?_
  rintro e w1 ⟨rfl, rfl⟩
  generalize hWW : w.alloc (.cells u 29) = W1 at *
  have hN : W1.heap.size = w.heap.size + 1 := by rw [← hWW, World.size_alloc]
  clear hWW
  have c12 : W1.cell? ⟨w.heap.size, 12, none⟩ = some (.bool fl) := H0'.out.cell K12.out
  go_wp2_with (first
    | (go_at_call 62
       (with_reducible refine (HH.out _).mono ?_)
       rintro e u1 ⟨A1, c1, rfl, hr, -, hb⟩
       have HA := Lib.hid (AC.of_gives (Below.refl _ W1) hr hb)
       have HD := Lib.hid (H0'.out.call hb)
       have d9 : u1.cell? ⟨w.heap.size, 9, none⟩ = some (.int .u64 (hi : Nat)) := HD.out.cell K9.out
       have hs := HA.out.size
       have HS := Lib.hid hs
       clear hr hb hs)
    | (go_at_call 63
       (with_reducible refine (HG1.out _).mono ?_)
       rintro e u2 ⟨A2, c2, rfl, -, hw2, hb⟩
       have HV := Lib.hid hw2
       replace HA := Lib.hid (HA.out.call hb)
       clear hw2 hb)
    | (at_builtin
       refine append_anyB rfl _ _ 22 rfl W1.heap.size 5 i0 Tryz.underlying22 hi0 hz0 hz1 hz2 _ zh rfl HA.out.row A2 c2 zi rfl HV.out (by omega) HA.out.size ?_
       intro v2 w2 h2 hg2
       replace HA := Lib.hid (HA.out.app h2 hg2)
       have d10 : w2.cell? ⟨w.heap.size, 10, none⟩ = some (.int .u64 (lo : Nat)) := (H0'.out.below HA.out.below (by omega)).cell K10.out
       clear h2 hg2 HV)
    | (go_at_call 63
       (with_reducible refine (HG2.out _).mono ?_)
       rintro e u3 ⟨A3, c3, rfl, -, hw2, hb⟩
       have HV := Lib.hid hw2
       replace HA := Lib.hid (HA.out.call hb)
       clear hw2 hb)
    | (at_builtin
       refine append_anyB rfl _ _ 22 rfl W1.heap.size 5 i0 Tryz.underlying22 hi0 hz0 hz1 hz2 _ (zh ++ zi) rfl HA.out.row A3 c3 zl rfl HV.out (by simp only [List.length_append]; omega) HA.out.size ?_
       intro v3 w3 h2 hg2
       replace HA := Lib.hid (HA.out.app h2 hg2)
       clear h2 hg2 HV))
  clear HH HG1 HG2
  have l4 : (zh ++ zi ++ zl).length ≤ 100 := by simp only [List.length_append]; omega
  generalize zh ++ zi ++ zl = zp at *
  have HA0 := HA
  clear HA
  go_loopg [4, 5] 8 (fun g v i wr => ∃ k : Nat, k + g = 8 ∧ i = .int .i64 (k : Nat) ∧ Hid (AC W1 v (zp ++ putBig m ((List.range k).map h)) wr))
  case atStart => exact ⟨0, by omega, rfl, by rw [show putBig m ((List.range 0).map h) = [] from rfl, List.append_nil]; exact HA0⟩
  case round =>
    clear HA0 d9 d10
    obtain ⟨k, hk, rfl, HA⟩ := hrel
    have lk : (putBig m ((List.range k).map h)).length ≤ 100 := by rw [putBig_length, List.length_map, List.length_range]; have := Nat.mul_le_mul (show k ≤ 8 by omega) hm8; omega
    by_cases h8 : k < 8
    · obtain ⟨g, rfl⟩ : ∃ g, gk = g + 1 := ⟨gk - 1, by omega⟩
      have q1 : wr.cell? ⟨w.heap.size, 1 + k, none⟩ = some (.int .u64 (h k : Nat)) := (H0'.out.below HA.out.below (by omega)).cell (HKK.out k h8)
      have i1 : (k : Int) < 8 := by omega
      have HG := Lib.hid (fun W => HG3.out k W)
      have HS := Lib.hid (putBig_snoc m h k)
      have lb : (beB m (h k)).length ≤ 100 := by rw [beB_length]; omega
      generalize putBig m ((List.range k).map h) = zk at *
      generalize beB m (h k) = zb at *
      generalize h k = y at *
      go_wp2_with (first
        | (go_at_call 63
           (with_reducible refine (HG.out _).mono ?_)
           rintro e u3 ⟨A3, c3, rfl, -, hw2, hb⟩
           have HV := Lib.hid hw2
           replace HA := Lib.hid (HA.out.call hb)
           clear hw2 hb)
        | (at_builtin
           refine append_anyB rfl _ _ 22 rfl W1.heap.size 5 i0 Tryz.underlying22 hi0 hz0 hz1 hz2 _ (zp ++ zk) rfl HA.out.row A3 c3 zb rfl HV.out (by simp only [List.length_append]; omega) HA.out.size ?_
           intro v3 w3 h2 hg2
           replace HA := Lib.hid (HA.out.app h2 hg2)
           clear h2 hg2 HV))
      go_roundg g
      case measure => omega
      case rel => exact ⟨k + 1, by omega, by go_num, by rw [HS.out, ← List.append_assoc]; exact HA⟩
    · obtain rfl : k = 8 := by omega
      generalize putBig m ((List.range 8).map h) = zk at *
      have q1 : wr.cell? ⟨w.heap.size, 11, none⟩ = some (.slice A xs.length c) := (H0'.out.below HA.out.below (by omega)).cell K11.out
      have HW2 := Lib.hid (HW.out.below HA.out.below (Nat.le_refl _))
      have lx : xs.length ≤ 200 := by omega
      go_wp2_with (first
        | (at_builtin
           refine append_anyB rfl _ _ 22 rfl W1.heap.size 5 i0 Tryz.underlying22 hi0 hz0 hz1 hz2 _ (zp ++ zk) rfl HA.out.row A c xs rfl HW2.out (by simp only [List.length_append]; omega) HA.out.size ?_
           intro v3 w3 h2 hg2
           replace HA := Lib.hid (HA.out.app h2 hg2)
           have q2 : w3.cell? ⟨w.heap.size, 11, none⟩ = some (.slice A xs.length c) := (H0'.out.below HA.out.below (by omega)).cell K11.out
           clear h2 hg2))
      have l5 : (zp ++ zk ++ xs).length ≤ 500 := by simp only [List.length_append]; omega
      generalize zp ++ zk ++ xs = zq at *
      have HA0 := HA
      clear HA q1 q2
      go_loopg [4, 6] (sz - xs.length) (fun g v i wr => ∃ j : Nat, j + g = sz - xs.length ∧ i = .int .i64 ((xs.length + j : Nat) : Int) ∧ Hid (AC W1 v (zq ++ List.replicate j 0) wr))
      case atStart => exact ⟨0, by omega, by go_num, by simpa using HA0⟩
      case round =>
        clear HA0
        obtain ⟨j, hj, rfl, HA⟩ := hrel
        by_cases hlt : xs.length + j < sz
        · obtain ⟨g, rfl⟩ : ∃ g, gk = g + 1 := ⟨gk - 1, by omega⟩
          have d1 : decide (((xs.length + j : Nat) : Int) < (sz : Int)) = true := decide_eq_true (by omega)
          have HS := Lib.hid (rep_snoc j)
          have lj : (List.replicate j (0 : Nat)).length ≤ 200 := by rw [List.length_replicate]; omega
          generalize List.replicate j (0 : Nat) = zj at *
          have HB2 := Lib.hid ((Below.refl wr.heap.size wr).alloc (Nat.le_refl _) (.cells #[.int .u8 0] 5))
          have HV := Lib.hid (words_new wr 5 .u8 [0] (c := #[.int .u8 0]) rfl)
          replace HA := Lib.hid (HA.out.call HB2.out)
          go_wp2_with (first
            | (at_builtin
               refine append_anyB rfl _ _ 22 rfl W1.heap.size 5 i0 Tryz.underlying22 hi0 hz0 hz1 hz2 _ (zq ++ zj) rfl HA.out.row (some ⟨wr.heap.size, 0, none⟩) 1 [0] rfl HV.out (by simp only [List.length_append, List.length_cons, List.length_nil]; omega) HA.out.size ?_
               intro v3 w3 h2 hg2
               replace HA := Lib.hid (HA.out.app h2 hg2)
               clear h2 hg2))
          go_roundg g
          case measure => omega
          case rel => exact ⟨j + 1, by omega, by go_num, by rw [HS.out, ← List.append_assoc]; exact HA⟩
        · have d1 : decide (((xs.length + j : Nat) : Int) < (sz : Int)) = false := decide_eq_false (by omega)
          obtain rfl : j = sz - xs.length := by omega
          have HE := Lib.hid (HT.out _ rfl)
          go_wp2_with fail
          go_ret
          have hr := HA.out.row
          rw [HE.out] at hr
          exact Gives.mk (hr.mono (by omega)) (HB0.out.trans (HA.out.below.mono (by omega)))
theorem refBlock20_any (a : Nat) (h : Nat → Nat) (hh : ∀ i, h i < 18446744073709551616) (hi lo : Nat) (hhi : hi < 18446744073709551616) (hl : lo < 18446744073709551616) (A : Option Addr) (c : Nat) (xs : List Nat) (fl : Bool) (w : World) (hw : Words .u8 w A xs)
    (h1 : 1 ≤ a) (h6 : a ≤ 6) (hx : xs.length ≤ sz11 a) :
    Calls Tryz.prog 30 #[.agg (blkV a h hi lo (.slice A xs.length c) fl)] w (Gives .u8 5 (blkB a (sz11 a) h hi lo xs fl) w) := by
  have hc : sz11 (a : Int) = 64 ∨ sz11 (a : Int) = 128 := by
    rcases sz11_cases (a : Int) with ⟨hs, _⟩ | ⟨hs, _⟩ | ⟨_, hs⟩
    · exact .inl hs
    · exact .inr hs
    · omega
  exact refBlock20_core a (by omega) (sz11 a) (sz11 a / 16) (by omega) (by omega) h hh hi lo hhi hl A c xs fl hx w hw (fun W => refBlock11_any a W)
end Go.Proofs.YtflgnhplbblokaaGreatDoor.Sn
end

section
namespace Go.Proofs.YtflgnhplbblokaaGreatDoor.Cd
open Go.RowKit Go.MapKept Rw
set_option linter.unusedVariables false
set_option maxRecDepth 20000
set_option linter.unusedSimpArgs false
def rateB (r : Int) : Bool := decide (r = 136 ∨ r = 168)
def pxN (r : Nat) (xs ys : List Nat) : List Nat := padN r (textN xs ++ textN ys)
theorem pxN_lt (r : Nat) {xs ys : List Nat} (hx : AllLt 256 xs) (hy : AllLt 256 ys) : AllLt 256 (pxN r xs ys) := padN_lt ((textN_lt hx).append (textN_lt hy))
theorem texts_length (xs ys : List Nat) : (textN xs ++ textN ys).length ≤ xs.length + ys.length + 18 := by
  have h1 := nb_le (8 * xs.length)
  have h2 := nb_le (8 * ys.length)
  rw [List.length_append, textN_length, textN_length]; omega
theorem pxN_length (r : Nat) (xs ys : List Nat) (hr : 1 ≤ r) : (pxN r xs ys).length < xs.length + ys.length + 27 + r := by
  have h1 := texts_length xs ys
  have h2 := nb_le r
  have h3 := padK_lt (n := nb r + 1 + (textN xs ++ textN ys).length) hr
  unfold pxN; rw [padN_length]; omega
theorem step_appB {P : Program} {w : World} {ops : Array Oper} {o : Oper} {a : Act} {K : Act → World → Prop} {Q : Exit → Act → World → Prop} {E : Prop} (hgd : o.guard = none) (s x : Operand) (t : TypeId)
    (ho : o.op = .call { callee := .builtin .append, args := #[s, x], argTypes := #[t, t] })
    (base : Nat) (e : TypeId) (i : TypeInfo) (ht : P.underlying t = some (.slice e)) (hi : P.info? e = some i) (hz : i.zero = some (.int .u8 0)) (hsize : i.size = 1) (hby : i.bytes = 1)
    (v : Value) (zs : List Nat) (hs : a.eval s = v) (hown : Row .u8 e base w v zs) (A : Option Addr) (c : Nat) (ys : List Nat) (hx : a.eval x = .slice A ys.length c) (hw : Words .u8 w A ys) (hy0 : ys ≠ [])
    (hlen : zs.length + ys.length ≤ 10000000) (hbase : base ≤ w.heap.size)
    (h : ∀ v' w', Row .u8 e base w' v' (zs ++ ys) → w.grownBy w' v.ownBlock → K (a.put o.dst v') w') :
    if Region.wanted o (yielded ops a.tmps) = true then Oper.wp P o a w K Q else E := by
  have hp : 0 < ys.length := List.length_pos_iff.2 hy0
  obtain ⟨b, o', rfl, -⟩ := hw 0 hp
  exact step_append_lies w hgd s x t ho base e i (.int .u8 0) 1 1 ht hi hz hsize hby rfl (by decide) v zs.length (cellsOf .u8 zs) hs hown ⟨b, o', none⟩ ys.length c (cellsOf .u8 ys) hx (by rw [cellsOf_length, Nat.mul_one]) (words_addr8 hw) (cellsOf_oneCell _ _) hp (by unfold maxLen; omega) (by omega) hbase w.heap.size rfl
    fun g cap w' h1 h2 _ _ => h _ w' (Row.append h1) h2
end Go.Proofs.YtflgnhplbblokaaGreatDoor.Cd
end

section
namespace Go.Proofs.YtflgnhplbblokaaGreatDoor.Sn
open Go.RowKit Rw Mk Cd L64 Al Ln
set_option linter.unusedVariables false
set_option linter.unusedSimpArgs false
set_option maxRecDepth 100000 in
set_option maxHeartbeats 4000000 in
theorem refSponge20_core (a : Nat) (ha : a < 256) (kd : Nat) (f : Nat → Nat) (hf : ∀ i, f i < 18446744073709551616) (p : Nat) (hp : p < 256) (rd : Bool) (A1 : Option Addr) (c1 : Nat) (xs1 : List Nat) (A2 : Option Addr) (c2 : Nat) (xs2 : List Nat) (hl1 : xs1.length ≤ 100000) (hl2 : xs2.length ≤ 100000) (w : World) (h1 : Words .u8 w A1 xs1) (h2 : Words .u8 w A2 xs2)
    (C0 : ∀ W, Calls Tryz.prog 31 #[.int .i64 (a : Nat)] W fun e w' => e = .returned (.int .i64 (kd : Nat)) ∧ W = w') :
    Calls Tryz.prog 34 #[.agg (spV a f (p : Nat) rd (.slice A1 xs1.length c1) (.slice A2 xs2.length c2))] w (Gives .u8 5 (spgB a kd f p rd xs1 xs2) w) := by
  obtain ⟨i0, hi0, hz0, hz1, hz2⟩ := info_parts u8_info2
  have hb0 : Below w.heap.size w (w.alloc (.cells (spV a f (p : Nat) rd (.slice A1 xs1.length c1) (.slice A2 xs2.length c2)) 38)) := (Below.refl _ w).alloc (Nat.le_refl _) _
  have hH := Hold.new w (spV a f (p : Nat) rd (.slice A1 xs1.length c1) (.slice A2 xs2.length c2)) 38 30 spV_size
  have HC0 := Lib.hid C0
  have HH := Lib.hid (fun W => refHead_any a ha rd W)
  have HG := Lib.hid (fun W => refBytes14_any f hf W)
  have HT1 := Lib.hid (fun W hW => refText_any A1 c1 xs1 hl1 W hW)
  have HT2 := Lib.hid (fun W hW => refText_any A2 c2 xs2 hl2 W hW)
  have K0 : Hid ((spV a f (p : Nat) rd (.slice A1 xs1.length c1) (.slice A2 xs2.length c2))[0]? = some (.int .i64 (a : Nat))) := spV_0
  have K26 : Hid ((spV a f (p : Nat) rd (.slice A1 xs1.length c1) (.slice A2 xs2.length c2))[26]? = some (.int .i64 (p : Nat))) := spV_26
  have K27 : Hid ((spV a f (p : Nat) rd (.slice A1 xs1.length c1) (.slice A2 xs2.length c2))[27]? = some (.bool rd)) := spV_27
  have K28 : Hid ((spV a f (p : Nat) rd (.slice A1 xs1.length c1) (.slice A2 xs2.length c2))[28]? = some (.slice A1 xs1.length c1)) := spV_28
  have K29 : Hid ((spV a f (p : Nat) rd (.slice A1 xs1.length c1) (.slice A2 xs2.length c2))[29]? = some (.slice A2 xs2.length c2)) := spV_29
  have KL : Hid (∀ W, Hold W w.heap.size 30 (spV a f (p : Nat) rd (.slice A1 xs1.length c1) (.slice A2 xs2.length c2)) → (loadRow 34 (.pointer (some ⟨w.heap.size, 1, none⟩))).run Tryz.prog W = .ok (.agg (uTab 25 f)) W) := fun W h => sp_lanes h
  have HW1 := Lib.hid (h1.below hb0 (Nat.le_refl _))
  have HW2 := Lib.hid (h2.below hb0 (Nat.le_refl _))
  have HB0 := Lib.hid hb0
  have hwr : IntKind.u8.wrap (p : Int) = (p : Int) := by rw [IntKind.wrap_u8]; omega
  have hwr2 : (p : Int) % 256 = (p : Int) := by omega
  have l1 : (headN a rd).length ≤ 6 := Nat.le_refl 6
  have l2 : (bytesN f).length ≤ 200 := by simp [bytesN]
  have n1 := nb_le (8 * xs1.length)
  have n2 := nb_le (8 * xs2.length)
  have l3 : (textN xs1).length ≤ 100100 := by rw [textN_length]; omega
  have l4 : (textN xs2).length ≤ 100100 := by rw [textN_length]; omega
  have HT : Hid (∀ zs, zs = headN a rd ++ [p] ++ bytesN f ++ (if kd = 4 then textN xs1 ++ textN xs2 else []) → zs = spgB a kd f p rd xs1 xs2) := fun zs hz => by
    rw [hz, spgB, nameB]
    simp
  clear C0 hf ha hp n1 n2 hl1 hl2 h1 h2 hb0
  generalize spgB a kd f p rd xs1 xs2 = tot at *
  generalize headN a rd = zh at *
  generalize bytesN f = zb at *
  generalize textN xs1 = z1 at *
  generalize textN xs2 = z2 at *
  generalize spV a f (p : Nat) rd (.slice A1 xs1.length c1) (.slice A2 xs2.length c2) = u at *
  go_enter Tryz.func34, Tryz.ntmps34
  go_wp2_with fail
  generalize hWW : w.alloc (.cells u 38) = U at *
  have hN : w.heap.size < U.heap.size := by rw [← hWW, World.size_alloc]; omega
  clear hWW
  have hHd : Hold U.drew w.heap.size 30 u := hH.drew
  have H0 := Lib.hid hH
  have c0 : U.cell? ⟨w.heap.size, 0, none⟩ = some (.int .i64 (a : Nat)) := hH.cell K0.out
  have c26 : U.cell? ⟨w.heap.size, 26, none⟩ = some (.int .i64 (p : Nat)) := hH.cell K26.out
  have c27 : U.cell? ⟨w.heap.size, 27, none⟩ = some (.bool rd) := hH.cell K27.out
  have hHp : Hold (U.alloc (.cells #[.int .u8 (p : Nat)] 5)) w.heap.size 30 u := hH.past _
  have e0 : (U.alloc (.cells #[.int .u8 (p : Nat)] 5)).cell? ⟨w.heap.size, 0, none⟩ = some (.int .i64 (a : Nat)) := hHp.cell K0.out
  have e27 : (U.alloc (.cells #[.int .u8 (p : Nat)] 5)).cell? ⟨w.heap.size, 27, none⟩ = some (.bool rd) := hHp.cell K27.out
  have HVp : Hid (Words .u8 (U.alloc (.cells #[.int .u8 (p : Nat)] 5)).drew (some ⟨U.heap.size, 0, none⟩) [p]) := words_new U 5 .u8 [p] rfl
  have HUd : Hid (Below U.heap.size U U.drew) := (Below.refl _ _).drewN 1
  have HUp : Hid (Below U.heap.size U (U.alloc (.cells #[.int .u8 (p : Nat)] 5)).drew) := (((Below.refl _ _).alloc (Nat.le_refl _) _).drewN 1)
  clear hH hHd hHp
  go_region_law (first
    | (go_simp
       go_at_call 62
       (with_reducible refine (HH.out _).mono ?_)
       rintro e u1 ⟨Ah, ch, rfl, hr, -, hb⟩
       try clear c0 c26 c27
       try clear e0 e27
       first
         | (have HVx := Lib.hid (Words.below HVp.out hb (Nat.le_refl _))
            have HA := Lib.hid (AC.of_gives HUp.out hr hb)
            clear hr hb)
         | (have hA := AC.of_gives HUd.out hr hb
            have hHx := H0.out.below hA.below (by omega)
            have c26 : u1.cell? ⟨w.heap.size, 26, none⟩ = some (.int .i64 (p : Nat)) := hHx.cell K26.out
            have HVx := Lib.hid (words_new u1 5 .u8 [p] (c := #[.int .u8 (p : Nat)]) rfl)
            have HA := Lib.hid (hA.call (W' := u1.alloc (.cells #[.int .u8 (p : Nat)] 5)) ((Below.refl _ _).alloc (Nat.le_refl _) _))
            clear hr hb hA hHx))
    | (refine step_appB rfl _ _ 22 rfl U.heap.size 5 i0 Tryz.underlying22 hi0 hz0 hz1 hz2 (.slice Ah zh.length ch) zh (by rfl) HA.out.row (some ⟨_, 0, none⟩) 1 [p] (by rfl) HVx.out (by simp) (by simp only [List.length_cons, List.length_nil]; omega) HA.out.size ?_
       intro v5 w5 h5 hg5
       replace HA := Lib.hid (HA.out.app h5 hg5)
       have p1 := KL.out _ (H0.out.below HA.out.below (by omega))
       clear h5 hg5 HVx))
  all_goals
    clear HH HVp HUd HUp
    try clear c26
    by_cases h4 : kd = 4
    · have k4 : ((kd : Int) == 4) = true := by rw [beq_iff_eq]; omega
      rw [if_pos h4] at HT
      have HE := Lib.hid (HT.out (zh ++ [p] ++ zb ++ z1 ++ z2) (by simp))
      clear h4 HT
      go_wp2_with (first
        | (go_at_call 66
           (with_reducible refine (HG.out _).mono ?_)
           rintro e u2 ⟨A3, c3, rfl, -, hw2, hb⟩
           have HV := Lib.hid hw2
           replace HA := Lib.hid (HA.out.call hb)
           clear hw2 hb)
        | (at_builtin
           refine append_anyB rfl _ _ 22 rfl U.heap.size 5 i0 Tryz.underlying22 hi0 hz0 hz1 hz2 _ (zh ++ [p]) rfl HA.out.row A3 c3 zb rfl HV.out (by simp only [List.length_append, List.length_cons, List.length_nil]; omega) HA.out.size ?_
           intro v2 w2 k2 kg2
           replace HA := Lib.hid (HA.out.app k2 kg2)
           have d0 : w2.cell? ⟨w.heap.size, 0, none⟩ = some (.int .i64 (a : Nat)) := (H0.out.below HA.out.below (by omega)).cell K0.out
           have d28 : w2.cell? ⟨w.heap.size, 28, none⟩ = some (.slice A1 xs1.length c1) := (H0.out.below HA.out.below (by omega)).cell K28.out
           clear k2 kg2 HV)
        | (go_at_call 31
           (with_reducible refine (HC0.out _).mono ?_)
           rintro e u3 ⟨rfl, rfl⟩)
        | (go_at_call 67
           (with_reducible refine (HT1.out _ (HW1.out.below HA.out.below (Nat.le_refl _))).mono ?_)
           rintro e u4 ⟨A4, c4, rfl, -, hw2, hb⟩
           have HV := Lib.hid hw2
           replace HA := Lib.hid (HA.out.call hb)
           clear hw2 hb)
        | (at_builtin
           refine append_anyB rfl _ _ 22 rfl U.heap.size 5 i0 Tryz.underlying22 hi0 hz0 hz1 hz2 _ (zh ++ [p] ++ zb) rfl HA.out.row A4 c4 z1 rfl HV.out (by simp only [List.length_append, List.length_cons, List.length_nil]; omega) HA.out.size ?_
           intro v2 w2 k2 kg2
           replace HA := Lib.hid (HA.out.app k2 kg2)
           have d29 : w2.cell? ⟨w.heap.size, 29, none⟩ = some (.slice A2 xs2.length c2) := (H0.out.below HA.out.below (by omega)).cell K29.out
           clear k2 kg2 HV)
        | (go_at_call 67
           (with_reducible refine (HT2.out _ (HW2.out.below HA.out.below (Nat.le_refl _))).mono ?_)
           rintro e u4 ⟨A5, c5, rfl, -, hw2, hb⟩
           have HV := Lib.hid hw2
           replace HA := Lib.hid (HA.out.call hb)
           clear hw2 hb)
        | (at_builtin
           refine append_anyB rfl _ _ 22 rfl U.heap.size 5 i0 Tryz.underlying22 hi0 hz0 hz1 hz2 _ (zh ++ [p] ++ zb ++ z1) rfl HA.out.row A5 c5 z2 rfl HV.out (by simp only [List.length_append, List.length_cons, List.length_nil]; omega) HA.out.size ?_
           intro v2 w2 k2 kg2
           replace HA := Lib.hid (HA.out.app k2 kg2)
           clear k2 kg2 HV))
      go_ret
      have hr := HA.out.row
      rw [HE.out] at hr
      exact Gives.mk (hr.mono (by omega)) (HB0.out.trans (HA.out.below.mono (by omega)))
    · have k4 : ((kd : Int) == 4) = false := by rw [beq_eq_false_iff_ne]; omega
      rw [if_neg h4] at HT
      have HE := Lib.hid (HT.out (zh ++ [p] ++ zb) (by simp))
      clear h4 HT
      go_wp2_with (first
        | (go_at_call 66
           (with_reducible refine (HG.out _).mono ?_)
           rintro e u2 ⟨A3, c3, rfl, -, hw2, hb⟩
           have HV := Lib.hid hw2
           replace HA := Lib.hid (HA.out.call hb)
           clear hw2 hb)
        | (at_builtin
           refine append_anyB rfl _ _ 22 rfl U.heap.size 5 i0 Tryz.underlying22 hi0 hz0 hz1 hz2 _ (zh ++ [p]) rfl HA.out.row A3 c3 zb rfl HV.out (by simp only [List.length_append, List.length_cons, List.length_nil]; omega) HA.out.size ?_
           intro v2 w2 k2 kg2
           replace HA := Lib.hid (HA.out.app k2 kg2)
           have d0 : w2.cell? ⟨w.heap.size, 0, none⟩ = some (.int .i64 (a : Nat)) := (H0.out.below HA.out.below (by omega)).cell K0.out
           have d28 : w2.cell? ⟨w.heap.size, 28, none⟩ = some (.slice A1 xs1.length c1) := (H0.out.below HA.out.below (by omega)).cell K28.out
           clear k2 kg2 HV)
        | (go_at_call 31
           (with_reducible refine (HC0.out _).mono ?_)
           rintro e u3 ⟨rfl, rfl⟩)
        | (go_at_call 67
           (with_reducible refine (HT1.out _ (HW1.out.below HA.out.below (Nat.le_refl _))).mono ?_)
           rintro e u4 ⟨A4, c4, rfl, -, hw2, hb⟩
           have HV := Lib.hid hw2
           replace HA := Lib.hid (HA.out.call hb)
           clear hw2 hb)
        | (at_builtin
           refine append_anyB rfl _ _ 22 rfl U.heap.size 5 i0 Tryz.underlying22 hi0 hz0 hz1 hz2 _ (zh ++ [p] ++ zb) rfl HA.out.row A4 c4 z1 rfl HV.out (by simp only [List.length_append, List.length_cons, List.length_nil]; omega) HA.out.size ?_
           intro v2 w2 k2 kg2
           replace HA := Lib.hid (HA.out.app k2 kg2)
           have d29 : w2.cell? ⟨w.heap.size, 29, none⟩ = some (.slice A2 xs2.length c2) := (H0.out.below HA.out.below (by omega)).cell K29.out
           clear k2 kg2 HV)
        | (go_at_call 67
           (with_reducible refine (HT2.out _ (HW2.out.below HA.out.below (Nat.le_refl _))).mono ?_)
           rintro e u4 ⟨A5, c5, rfl, -, hw2, hb⟩
           have HV := Lib.hid hw2
           replace HA := Lib.hid (HA.out.call hb)
           clear hw2 hb)
        | (at_builtin
           refine append_anyB rfl _ _ 22 rfl U.heap.size 5 i0 Tryz.underlying22 hi0 hz0 hz1 hz2 _ (zh ++ [p] ++ zb ++ z1) rfl HA.out.row A5 c5 z2 rfl HV.out (by simp only [List.length_append, List.length_cons, List.length_nil]; omega) HA.out.size ?_
           intro v2 w2 k2 kg2
           replace HA := Lib.hid (HA.out.app k2 kg2)
           clear k2 kg2 HV))
      go_ret
      have hr := HA.out.row
      rw [HE.out] at hr
      exact Gives.mk (hr.mono (by omega)) (HB0.out.trans (HA.out.below.mono (by omega)))
end Go.Proofs.YtflgnhplbblokaaGreatDoor.Sn
end

section
namespace Go.Proofs.YtflgnhplbblokaaGreatDoor.Sn
open Go.RowKit Rw Mk Cd L64 Al Ln
set_option linter.unusedVariables false
set_option linter.unusedSimpArgs false
end Go.Proofs.YtflgnhplbblokaaGreatDoor.Sn
end

section
namespace Go.Proofs.YtflgnhplbblokaaGreatDoor
open Go.RowKit
set_option linter.unusedVariables false
set_option linter.unusedSimpArgs false
def eqC (a b c d : Int) : Bool := a == c && b == d
theorem eqC_self (a b : Int) : eqC a b a b = true := by simp [eqC]
theorem run_eqlC (a b c d : Int) (w : World) : (binOp .eql 27 (.agg #[.int .u64 a, .int .u64 b]) (.agg #[.int .u64 c, .int .u64 d])).run Tryz.prog w = .ok (.bool (eqC a b c d)) w := by
  unfold eqC
  by_cases h1 : a = c <;> by_cases h2 : b = d <;> simp [go_sem, h1, h2]
theorem run_neqC (a b c d : Int) (w : World) : (binOp .neq 27 (.agg #[.int .u64 a, .int .u64 b]) (.agg #[.int .u64 c, .int .u64 d])).run Tryz.prog w = .ok (.bool (!eqC a b c d)) w := by
  unfold eqC
  by_cases h1 : a = c <;> by_cases h2 : b = d <;> simp [go_sem, h1, h2]
attribute [go_sem ↓] run_eqlC run_neqC
theorem exec_neqC {ρ : Operand → Value} {dst : Option Tmp} {x y : Operand} {ty : TypeId} {pos : String} {after : Array Edge} {guard : Option (Nat × Bool)} {p q r s : Int} (hx : ρ x = .agg #[.int .u64 p, .int .u64 q]) (hy : ρ y = .agg #[.int .u64 r, .int .u64 s]) (w : World) :
    (execOp ρ ⟨dst, .binOp .neq 27 x y 27, ty, pos, after, guard⟩).run Tryz.prog w = .ok (.value (.bool (!eqC p q r s))) w := by
  simp [execOp, hx, hy, go_sem]
theorem exec_eqlC {ρ : Operand → Value} {dst : Option Tmp} {x y : Operand} {ty : TypeId} {pos : String} {after : Array Edge} {guard : Option (Nat × Bool)} {p q r s : Int} (hx : ρ x = .agg #[.int .u64 p, .int .u64 q]) (hy : ρ y = .agg #[.int .u64 r, .int .u64 s]) (w : World) :
    (execOp ρ ⟨dst, .binOp .eql 27 x y 27, ty, pos, after, guard⟩).run Tryz.prog w = .ok (.value (.bool (eqC p q r s))) w := by
  simp [execOp, hx, hy, go_sem]
theorem wp_neqC {dst : Option Tmp} {x y : Operand} {ty : TypeId} {pos : String} {after : Array Edge} {guard : Option (Nat × Bool)} {a : Act} {w : World} {K : Act → World → Prop} {Q : Exit → Act → World → Prop} {p q r s : Int} (hx : a.eval x = .agg #[.int .u64 p, .int .u64 q]) (hy : a.eval y = .agg #[.int .u64 r, .int .u64 s])
    (h : K (a.put dst (.bool (!eqC p q r s))) w) : Oper.wp Tryz.prog ⟨dst, .binOp .neq 27 x y 27, ty, pos, after, guard⟩ a w K Q := by
  unfold Oper.wp
  rw [exec_neqC hx hy]
  exact h
theorem wp_eqlC {dst : Option Tmp} {x y : Operand} {ty : TypeId} {pos : String} {after : Array Edge} {guard : Option (Nat × Bool)} {a : Act} {w : World} {K : Act → World → Prop} {Q : Exit → Act → World → Prop} {p q r s : Int} (hx : a.eval x = .agg #[.int .u64 p, .int .u64 q]) (hy : a.eval y = .agg #[.int .u64 r, .int .u64 s])
    (h : K (a.put dst (.bool (eqC p q r s))) w) : Oper.wp Tryz.prog ⟨dst, .binOp .eql 27 x y 27, ty, pos, after, guard⟩ a w K Q := by
  unfold Oper.wp
  rw [exec_eqlC hx hy]
  exact h
attribute [go_sem] eqC_self
/-! ### Boxes of structs behind calls -/
theorem box_call {W W' : World} {n k : Nat} (hb : Below W.heap.size W W') (h : RowOk W n k) : RowOk W' n k ∧ rowAt W' n = rowAt W n ∧ n ≠ W'.heap.size := by
  have hr := h.below hb h.lt
  refine ⟨hr, ?_, Nat.ne_of_lt hr.lt⟩
  unfold rowAt
  rw [hb.block n h.lt]
theorem box_old {W W' : World} {o : Obj} {n k : Nat} (hb : Below (W.alloc o).heap.size (W.alloc o) W') (h : RowOk W n k) : RowOk W' n k ∧ rowAt W' n = rowAt W n ∧ n ≠ W'.heap.size := by
  have h1 : RowOk (W.alloc o) n k := (RowOk_alloc_past h.lt).2 h
  have h2 : rowAt (W.alloc o) n = rowAt W n := rowAt_alloc_past h.lt
  rw [← h2]; exact box_call hb h1
theorem box_new {W W' : World} {c : Array Value} {t : TypeId} {k : Nat} (hb : Below (W.alloc (.cells c t)).heap.size (W.alloc (.cells c t)) W') (h : c.size = k) : RowOk W' W.heap.size k ∧ rowAt W' W.heap.size = c ∧ W.heap.size ≠ W'.heap.size := by
  have h1 : RowOk (W.alloc (.cells c t)) W.heap.size k := (RowOk_alloc_at rfl).2 h
  have h2 : rowAt (W.alloc (.cells c t)) W.heap.size = c := rowAt_alloc_at rfl
  have h3 := box_call hb h1
  rw [h2] at h3; exact h3
theorem cOk_back (hi lo n : Nat) (hh : hi < 18446744073709551616) (hl : lo < 18446744073709551616) (hn : n < 18446744073709551616) (h : cOk (numC hi lo + n) = true) :
    cOk (subC (numC (cHi (numC hi lo + n)) (cLo (numC hi lo + n))) n) = true ∧ cHi (subC (numC (cHi (numC hi lo + n)) (cLo (numC hi lo + n))) n) = hi ∧ cLo (subC (numC (cHi (numC hi lo + n)) (cLo (numC hi lo + n))) n) = lo := by
  have h1 : numC hi lo + n < 340282366920938463463374607431768211456 := by unfold cOk at h; exact of_decide_eq_true h
  have h2 : numC (cHi (numC hi lo + n)) (cLo (numC hi lo + n)) = numC hi lo + n := by unfold cHi cLo; rw [if_pos h1, if_pos h1]; unfold numC; omega
  have h3 : numC hi lo < 340282366920938463463374607431768211456 := numC_lt hh hl
  have h4 : subC (numC hi lo + n) n = numC hi lo := by unfold subC; rw [if_pos (by omega)]; omega
  rw [h2, h4]
  unfold cOk cHi cLo
  rw [if_pos h3, if_pos h3, decide_eq_true h3]
  unfold numC
  refine ⟨rfl, by omega, by omega⟩
end Go.Proofs.YtflgnhplbblokaaGreatDoor
end

section
namespace Go.Proofs.YtflgnhplbblokaaGreatDoor.Sn
open Go.RowKit Rw Mk Cd L64 Al
set_option linter.unusedVariables false
set_option linter.unusedSimpArgs false
def eqN (n : Nat) (f g : Nat → Nat) : Bool := (List.range n).all fun i => ((f i : Nat) : Int) == ((g i : Nat) : Int)
theorem eqN_iff (n : Nat) (f g : Nat → Nat) : eqN n f g = true ↔ ∀ i, i < n → f i = g i := by
  unfold eqN
  rw [List.all_eq_true]
  constructor
  · intro k i hi
    have := k i (List.mem_range.2 hi)
    rw [beq_iff_eq] at this
    omega
  · intro k i hi
    have := k i (List.mem_range.1 hi)
    rw [beq_iff_eq]
    omega
theorem equalIn8 (h g : Nat → Nat) (W : World) : (Op.equalIn 10000 25 (.agg (uTab 8 h)) (.agg (uTab 8 g))).run Tryz.prog W = .ok (eqN 8 h g) W := by
  obtain ⟨i0, hi0⟩ : ∃ i, Tryz.prog.info? 24 = some i := Option.isSome_iff_exists.1 (by kernel_rfl)
  exact equalIn_arrs (P := Tryz.prog) (k := .u64) W Tryz.underlying25 Tryz.underlying24 hi0 (by kernel_rfl) (fun i => ((h i : Nat) : Int)) (fun i => ((g i : Nat) : Int)) (n := 8)
section
attribute [local go_sem ↓] load8k
set_option maxRecDepth 100000 in
set_option maxHeartbeats 4000000 in
theorem same11_core (alg alg' : Int) (h h' : Nat → Nat) (hi lo hi' lo' : Nat) (s s' : Value) (fl fl' : Bool) (u u' : Array Value) (b1 b2 b3 b4 b5 : Bool) (w : World) (hu : u.size = 13) (hu' : u'.size = 13)
    (k0 : u[0]? = some (.int .i64 alg)) (k11 : u[11]? = some s) (k12 : u[12]? = some (.bool fl)) (k0' : u'[0]? = some (.int .i64 alg')) (k11' : u'[11]? = some s') (k12' : u'[12]? = some (.bool fl'))
    (kc : ∀ W n, Hold W n 13 u → (loadRow 27 (.pointer (some ⟨n, 9, none⟩))).run Tryz.prog W = .ok (.agg #[.int .u64 (hi : Nat), .int .u64 (lo : Nat)]) W) (kh : ∀ W n, Hold W n 13 u → (loadRow 25 (.pointer (some ⟨n, 1, none⟩))).run Tryz.prog W = .ok (.agg (uTab 8 h)) W)
    (kc' : ∀ W n, Hold W n 13 u' → (loadRow 27 (.pointer (some ⟨n, 9, none⟩))).run Tryz.prog W = .ok (.agg #[.int .u64 (hi' : Nat), .int .u64 (lo' : Nat)]) W) (kh' : ∀ W n, Hold W n 13 u' → (loadRow 25 (.pointer (some ⟨n, 1, none⟩))).run Tryz.prog W = .ok (.agg (uTab 8 h')) W)
    (e1 : (alg == alg') = b1) (e2 : ∀ W, (Op.equalIn 10000 25 (.agg (uTab 8 h)) (.agg (uTab 8 h'))).run Tryz.prog W = .ok b2 W) (e3 : eqC (hi : Nat) (lo : Nat) (hi' : Nat) (lo' : Nat) = b3) (e4 : (fl == fl') = b4)
    (C5 : ∀ W, Below w.heap.size w W → Calls Tryz.prog 19 #[s, s'] W fun e w' => e = .returned (.bool b5) ∧ Below W.heap.size W w') :
    Calls Tryz.prog 13 #[.agg u, .agg u'] w fun e w' => e = .returned (.bool (b1 && (b2 && (b3 && (b4 && b5))))) ∧ Below w.heap.size w w' := by
  have hH := (Hold.new w u 29 13 hu).past (.cells u' 29)
  have hH' := Hold.new1 w (.cells u 29) u' 29 13 hu'
  have hb := ((Below.refl _ w).alloc (Nat.le_refl _) (.cells u 29)).alloc (by simp) (.cells u' 29)
  obtain ⟨U, hU⟩ : ∃ U, U = (w.alloc (.cells u 29)).alloc (.cells u' 29) := ⟨_, rfl⟩
  have q0 := hH.cell k0
  have q1 := hH.cell k11
  have q2 := hH.cell k12
  have q3 := hH'.cell k0'
  have q4 := hH'.cell k11'
  have q5 := hH'.cell k12'
  have q6 := kc _ _ hH
  have q7 := kh _ _ hH
  have q8 := kc' _ _ hH'
  have q9 := kh' _ _ hH'
  have HB := Lib.hid hb
  have D5 := Lib.hid C5
  clear hH hH' hb hU C5 kc kh kc' kh' k0 k11 k12 k0' k11' k12' hu hu'
  cases b1 with
  | false =>
    go_enter Tryz.func13, Tryz.ntmps13
    go_wp2_with (go_at_call 19; (with_reducible refine (D5.out _ HB.out).mono ?_); rintro e u1 ⟨rfl, hb⟩; replace HB := Lib.hid (HB.out.trans (hb.mono HB.out.size)); clear hb)
    go_ret
    refine ⟨?_, HB.out⟩
    simp
  | true =>
    cases b2 with
    | false =>
      go_enter Tryz.func13, Tryz.ntmps13
      go_wp2_with (go_at_call 19; (with_reducible refine (D5.out _ HB.out).mono ?_); rintro e u1 ⟨rfl, hb⟩; replace HB := Lib.hid (HB.out.trans (hb.mono HB.out.size)); clear hb)
      go_ret
      refine ⟨?_, HB.out⟩
      simp
    | true =>
      cases b3 with
      | false =>
        go_enter Tryz.func13, Tryz.ntmps13
        go_wp2_with (go_at_call 19; (with_reducible refine (D5.out _ HB.out).mono ?_); rintro e u1 ⟨rfl, hb⟩; replace HB := Lib.hid (HB.out.trans (hb.mono HB.out.size)); clear hb)
        go_ret
        refine ⟨?_, HB.out⟩
        simp
      | true =>
        cases b4 with
        | false =>
          go_enter Tryz.func13, Tryz.ntmps13
          go_wp2_with (go_at_call 19; (with_reducible refine (D5.out _ HB.out).mono ?_); rintro e u1 ⟨rfl, hb⟩; replace HB := Lib.hid (HB.out.trans (hb.mono HB.out.size)); clear hb)
          go_ret
          refine ⟨?_, HB.out⟩
          simp
        | true =>
          go_enter Tryz.func13, Tryz.ntmps13
          go_wp2_with (go_at_call 19; (with_reducible refine (D5.out _ HB.out).mono ?_); rintro e u1 ⟨rfl, hb⟩; replace HB := Lib.hid (HB.out.trans (hb.mono HB.out.size)); clear hb)
          go_ret
          refine ⟨?_, HB.out⟩
          simp
end
def same11 (alg alg' : Int) (h h' : Nat → Nat) (hi lo hi' lo' : Nat) (xs xs' : List Nat) (fl fl' : Bool) : Bool := (alg == alg') && (eqN 8 h h' && (eqC (hi : Nat) (lo : Nat) (hi' : Nat) (lo' : Nat) && ((fl == fl') && sameB xs xs')))
theorem refSame11_any (alg alg' : Int) (h h' : Nat → Nat) (hi lo hi' lo' : Nat) (A : Option Addr) (c : Nat) (xs : List Nat) (A' : Option Addr) (c' : Nat) (xs' : List Nat) (fl fl' : Bool) (w : World) (hx : AllLt 256 xs) (hx' : AllLt 256 xs') (l : xs.length ≤ 1000000) (l' : xs'.length ≤ 1000000) (hw : Words .u8 w A xs) (hw' : Words .u8 w A' xs') :
    Calls Tryz.prog 13 #[.agg (blkV alg h hi lo (.slice A xs.length c) fl), .agg (blkV alg' h' hi' lo' (.slice A' xs'.length c') fl')] w fun e w' => e = .returned (.bool (same11 alg alg' h h' hi lo hi' lo' xs xs' fl fl')) ∧ Below w.heap.size w w' :=
  same11_core alg alg' h h' hi lo hi' lo' _ _ fl fl' _ _ _ _ _ _ _ w rfl rfl rfl rfl rfl rfl rfl rfl (fun _ _ H => blk_count H) (fun _ _ H => blk_hs H) (fun _ _ H => blk_count H) (fun _ _ H => blk_hs H) rfl (fun W => equalIn8 h h' W) rfl rfl
    (fun W hb => Cd.same_any xs xs' hx hx' l l' W A c A' c' (hw.below hb (Nat.le_refl _)) (hw'.below hb (Nat.le_refl _)))
theorem equalIn25 (h g : Nat → Nat) (W : World) : (Op.equalIn 10000 34 (.agg (uTab 25 h)) (.agg (uTab 25 g))).run Tryz.prog W = .ok (eqN 25 h g) W := by
  obtain ⟨i0, hi0⟩ : ∃ i, Tryz.prog.info? 24 = some i := Option.isSome_iff_exists.1 (by kernel_rfl)
  exact equalIn_arrs (P := Tryz.prog) (k := .u64) W Tryz.underlying34 Tryz.underlying24 hi0 (by kernel_rfl) (fun i => ((h i : Nat) : Int)) (fun i => ((g i : Nat) : Int)) (n := 25)
set_option maxRecDepth 100000 in
set_option maxHeartbeats 4000000 in
theorem same20_core (alg alg' : Int) (f f' : Nat → Nat) (p p' : Int) (rd rd' : Bool) (s1 s2 s1' s2' : Value) (u u' : Array Value) (b1 b2 b3 b4 b5 : Bool) (w : World) (hu : u.size = 30) (hu' : u'.size = 30)
    (k0 : u[0]? = some (.int .i64 alg)) (k26 : u[26]? = some (.int .i64 p)) (k27 : u[27]? = some (.bool rd)) (k28 : u[28]? = some s1) (k29 : u[29]? = some s2)
    (k0' : u'[0]? = some (.int .i64 alg')) (k26' : u'[26]? = some (.int .i64 p')) (k27' : u'[27]? = some (.bool rd')) (k28' : u'[28]? = some s1') (k29' : u'[29]? = some s2')
    (kh : ∀ W n, Hold W n 30 u → (loadRow 34 (.pointer (some ⟨n, 1, none⟩))).run Tryz.prog W = .ok (.agg (uTab 25 f)) W) (kh' : ∀ W n, Hold W n 30 u' → (loadRow 34 (.pointer (some ⟨n, 1, none⟩))).run Tryz.prog W = .ok (.agg (uTab 25 f')) W)
    (e1 : (alg == alg') = b1) (e2 : ∀ W, (Op.equalIn 10000 34 (.agg (uTab 25 f)) (.agg (uTab 25 f'))).run Tryz.prog W = .ok b2 W) (e3 : (p == p') = b3) (e4 : (rd == rd') = b4)
    (C5 : ∀ W, Below w.heap.size w W → Calls Tryz.prog 35 #[.agg #[s1, s2], .agg #[s1', s2']] W fun e w' => e = .returned (.bool b5) ∧ Below W.heap.size W w') :
    Calls Tryz.prog 14 #[.agg u, .agg u'] w fun e w' => e = .returned (.bool (b1 && (b2 && (b3 && (b4 && b5))))) ∧ Below w.heap.size w w' := by
  have hH := (Hold.new w u 38 30 hu).past (.cells u' 38)
  have hH' := Hold.new1 w (.cells u 38) u' 38 30 hu'
  have hb := ((Below.refl _ w).alloc (Nat.le_refl _) (.cells u 38)).alloc (by simp) (.cells u' 38)
  have q0 := hH.cell k0
  have q1 := hH.cell k26
  have q2 := hH.cell k27
  have q3 := hH.cell k28
  have q4 := hH.cell k29
  have r0 := hH'.cell k0'
  have r1 := hH'.cell k26'
  have r2 := hH'.cell k27'
  have r3 := hH'.cell k28'
  have r4 := hH'.cell k29'
  have q7 := kh _ _ hH
  have q9 := kh' _ _ hH'
  have HB := Lib.hid hb
  have D5 := Lib.hid C5
  clear hH hH' hb C5 kh kh' k0 k26 k27 k28 k29 k0' k26' k27' k28' k29' hu hu'
  cases b1 with
  | false =>
    go_enter Tryz.func14, Tryz.ntmps14
    go_wp2_with (go_at_call 35; (with_reducible refine (D5.out _ HB.out).mono ?_); rintro e u1 ⟨rfl, hb⟩; replace HB := Lib.hid (HB.out.trans (hb.mono HB.out.size)); clear hb)
    go_ret
    refine ⟨?_, HB.out⟩
    simp
  | true =>
    cases b2 with
    | false =>
      go_enter Tryz.func14, Tryz.ntmps14
      go_wp2_with (go_at_call 35; (with_reducible refine (D5.out _ HB.out).mono ?_); rintro e u1 ⟨rfl, hb⟩; replace HB := Lib.hid (HB.out.trans (hb.mono HB.out.size)); clear hb)
      go_ret
      refine ⟨?_, HB.out⟩
      simp
    | true =>
      cases b3 with
      | false =>
        go_enter Tryz.func14, Tryz.ntmps14
        go_wp2_with (go_at_call 35; (with_reducible refine (D5.out _ HB.out).mono ?_); rintro e u1 ⟨rfl, hb⟩; replace HB := Lib.hid (HB.out.trans (hb.mono HB.out.size)); clear hb)
        go_ret
        refine ⟨?_, HB.out⟩
        simp
      | true =>
        cases b4 with
        | false =>
          go_enter Tryz.func14, Tryz.ntmps14
          go_wp2_with (go_at_call 35; (with_reducible refine (D5.out _ HB.out).mono ?_); rintro e u1 ⟨rfl, hb⟩; replace HB := Lib.hid (HB.out.trans (hb.mono HB.out.size)); clear hb)
          go_ret
          refine ⟨?_, HB.out⟩
          simp
        | true =>
          go_enter Tryz.func14, Tryz.ntmps14
          go_wp2_with (go_at_call 35; (with_reducible refine (D5.out _ HB.out).mono ?_); rintro e u1 ⟨rfl, hb⟩; replace HB := Lib.hid (HB.out.trans (hb.mono HB.out.size)); clear hb)
          go_ret
          refine ⟨?_, HB.out⟩
          simp
def same20 (alg alg' : Int) (f f' : Nat → Nat) (p p' : Int) (rd rd' : Bool) (xs1 xs2 ys1 ys2 : List Nat) : Bool := (alg == alg') && (eqN 25 f f' && ((p == p') && ((rd == rd') && (sameB xs1 ys1 && sameB xs2 ys2))))
theorem refSame20_any (alg alg' : Int) (f f' : Nat → Nat) (p p' : Int) (rd rd' : Bool) (A1 : Option Addr) (c1 : Nat) (xs1 : List Nat) (A2 : Option Addr) (c2 : Nat) (xs2 : List Nat) (B1 : Option Addr) (d1 : Nat) (ys1 : List Nat) (B2 : Option Addr) (d2 : Nat) (ys2 : List Nat) (w : World)
    (hx1 : AllLt 256 xs1) (hx2 : AllLt 256 xs2) (hy1 : AllLt 256 ys1) (hy2 : AllLt 256 ys2) (l1 : xs1.length ≤ 1000000) (l2 : xs2.length ≤ 1000000) (l3 : ys1.length ≤ 1000000) (l4 : ys2.length ≤ 1000000)
    (h1 : Words .u8 w A1 xs1) (h2 : Words .u8 w A2 xs2) (h3 : Words .u8 w B1 ys1) (h4 : Words .u8 w B2 ys2) :
    Calls Tryz.prog 14 #[.agg (spV alg f p rd (.slice A1 xs1.length c1) (.slice A2 xs2.length c2)), .agg (spV alg' f' p' rd' (.slice B1 ys1.length d1) (.slice B2 ys2.length d2))] w fun e w' => e = .returned (.bool (same20 alg alg' f f' p p' rd rd' xs1 xs2 ys1 ys2)) ∧ Below w.heap.size w w' :=
  same20_core alg alg' f f' p p' rd rd' _ _ _ _ _ _ _ _ _ _ _ w spV_size spV_size spV_0 spV_26 spV_27 spV_28 spV_29 spV_0 spV_26 spV_27 spV_28 spV_29 (fun _ _ H => sp_lanes H) (fun _ _ H => sp_lanes H) rfl (fun W => equalIn25 f f' W) rfl rfl
    (fun W hb => refSame17_any A1 c1 xs1 A2 c2 xs2 B1 d1 ys1 B2 d2 ys2 hx1 hx2 hy1 hy2 l1 l2 l3 l4 W (h1.below hb (Nat.le_refl _)) (h2.below hb (Nat.le_refl _)) (h3.below hb (Nat.le_refl _)) (h4.below hb (Nat.le_refl _)))
end Go.Proofs.YtflgnhplbblokaaGreatDoor.Sn
end

section
namespace Go.Proofs.YtflgnhplbblokaaGreatDoor.Sn
open Go.RowKit Rw Mk Cd L64 Al Ln
set_option linter.unusedVariables false
set_option linter.unusedSimpArgs false
theorem sameB_self (xs : List Nat) : sameB xs xs = true := by unfold sameB; simp
structure SB (w : World) (n k : Nat) (u : Array Value) (A : Option Addr) (xs : List Nat) (W : World) : Prop where
  below : Below w.heap.size w W
  hold : Hold W n k u
  words : Words .u8 W A xs
  tab : ATab W
theorem SB.call {w W W' : World} {n k : Nat} {u : Array Value} {A : Option Addr} {xs : List Nat} (h : SB w n k u A xs W) (hb : Below W.heap.size W W') : SB w n k u A xs W' :=
  ⟨h.below.trans (hb.mono h.below.size), h.hold.call hb, h.words.below hb (Nat.le_refl _), h.tab.below hb (Nat.le_refl _)⟩
end Go.Proofs.YtflgnhplbblokaaGreatDoor.Sn
end

section
namespace Go.Proofs.YtflgnhplbblokaaGreatDoor.Sn
open Go.RowKit Rw Mk Cd L64 Al Ln
set_option linter.unusedVariables false
set_option linter.unusedSimpArgs false
structure SC (w : World) (n k : Nat) (u : Array Value) (A1 : Option Addr) (xs1 : List Nat) (A2 : Option Addr) (xs2 : List Nat) (W : World) : Prop where
  below : Below w.heap.size w W
  hold : Hold W n k u
  w1 : Words .u8 W A1 xs1
  w2 : Words .u8 W A2 xs2
  tab : ATab W
theorem SC.call {w W W' : World} {n k : Nat} {u : Array Value} {A1 : Option Addr} {xs1 : List Nat} {A2 : Option Addr} {xs2 : List Nat} (h : SC w n k u A1 xs1 A2 xs2 W) (hb : Below W.heap.size W W') : SC w n k u A1 xs1 A2 xs2 W' :=
  ⟨h.below.trans (hb.mono h.below.size), h.hold.call hb, h.w1.below hb (Nat.le_refl _), h.w2.below hb (Nat.le_refl _), h.tab.below hb (Nat.le_refl _)⟩
end Go.Proofs.YtflgnhplbblokaaGreatDoor.Sn
end

section
namespace Go.Proofs.YtflgnhplbblokaaGreatDoor.Sn
open Go.RowKit Rw Mk Cd L64 Al Ln
set_option linter.unusedVariables false
set_option linter.unusedSimpArgs false
theorem bytesN_lt (f : Nat → Nat) : AllLt 256 (bytesN f) := by unfold bytesN; exact AllLt.map fun i _ => laneB_lt f i
theorem spgB_lt {a kd : Nat} {f : Nat → Nat} {p : Nat} {rd : Bool} {xs1 xs2 : List Nat} (ha : a < 256) (hp : p < 256) (h1 : AllLt 256 xs1) (h2 : AllLt 256 xs2) (l1 : xs1.length ≤ 100000) (l2 : xs2.length ≤ 100000) : AllLt 256 (spgB a kd f p rd xs1 xs2) := by
  refine (headN_lt rd ha).append ((show AllLt 256 [p] from fun x hx => by simp at hx; omega).append ((bytesN_lt f).append ?_))
  unfold nameB
  split
  · exact (textN_lt h1).append (textN_lt h2)
  · exact fun x hx => by cases hx
end Go.Proofs.YtflgnhplbblokaaGreatDoor.Sn
end

section
namespace Go.Proofs.YtflgnhplbblokaaGreatDoor.Sn
open Go.RowKit Rw Mk Cd L64 Al Ln
set_option linter.unusedVariables false
set_option linter.unusedSimpArgs false
theorem big32_put {l : List Nat} (h : AllLt 4294967296 l) : big32 (putBig 4 l) = l :=
  wordsN_flat (by omega) (beB_length 4) l fun x hx => by rw [be_beB, Nat.mod_eq_of_lt (h x hx)]
theorem putBig8_inj {l m : List Nat} (hl : AllLt 18446744073709551616 l) (hm : AllLt 18446744073709551616 m) (h : putBig 8 l = putBig 8 m) : l = m := by
  rw [← big64_put hl, h, big64_put hm]
theorem putBig4_inj {l m : List Nat} (hl : AllLt 4294967296 l) (hm : AllLt 4294967296 m) (h : putBig 4 l = putBig 4 m) : l = m := by
  rw [← big32_put hl, h, big32_put hm]
theorem hL_inj {h g : Nat → Nat} (e : hL h = hL g) : ∀ i, i < 8 → h i = g i := fun i hi => by
  have := congrArg (fun l => l.getD i 0) e
  simp only [hL] at this
  rwa [getD_map _ _ _ _ hi, getD_map _ _ _ _ hi] at this
theorem hL_congr {h g : Nat → Nat} (e : ∀ i, i < 8 → h i = g i) : hL h = hL g := List.map_congr_left fun i hi => e i (List.mem_range.1 hi)
theorem headN_inj {a a' : Nat} {fl fl' : Bool} {r r' : List Nat} (h : headN a fl ++ r = headN a' fl' ++ r') : a = a' ∧ fl = fl' ∧ r = r' := by
  obtain ⟨h1, h2⟩ := List.append_inj h rfl
  simp only [headN, List.cons.injEq, and_true, true_and] at h1
  refine ⟨h1.1, ?_, h2⟩
  have h3 := h1.2
  cases fl <;> cases fl' <;> simp [bitN] at h3 <;> rfl
theorem numC_inj {hi lo hi' lo' : Nat} (h1 : lo < 18446744073709551616) (h2 : lo' < 18446744073709551616) (h : numC hi lo = numC hi' lo') : hi = hi' ∧ lo = lo' := by unfold numC at h; omega
theorem blk_apart (a a' : Nat) (h h' : Nat → Nat) (hh : ∀ i, h i < 18446744073709551616) (hh' : ∀ i, h' i < 18446744073709551616) (hi lo hi' lo' : Nat) (b1 : hi < 18446744073709551616) (b2 : lo < 18446744073709551616) (b3 : hi' < 18446744073709551616) (b4 : lo' < 18446744073709551616) (xs xs' : List Nat) (fl fl' : Bool)
    (hr : right11 a h (numC hi lo) xs.length = true) (hr' : right11 a' h' (numC hi' lo') xs'.length = true) :
    sameB (blkB a (sz11 a) h hi lo xs fl) (blkB a' (sz11 a') h' hi' lo' xs' fl') = same11 a a' h h' hi lo hi' lo' xs xs' fl fl' := by
  rw [Bool.eq_iff_iff]
  unfold sameB same11 eqC
  simp only [decide_eq_true_eq, Bool.and_eq_true, beq_iff_eq, eqN_iff]
  constructor
  · intro e
    unfold blkB at e
    obtain ⟨e1, e2, e3⟩ := headN_inj e
    subst e1
    obtain ⟨e4, e5⟩ := List.append_inj e3 (by rw [putBig_length, putBig_length]; rfl)
    have e6 := putBig8_inj (by intro x hx; simp at hx; omega) (by intro x hx; simp at hx; omega) e4
    simp only [List.cons.injEq, and_true] at e6
    obtain ⟨rfl, rfl⟩ := e6
    obtain ⟨e7, e8⟩ := List.append_inj e5 (by rw [putBig_length, putBig_length, hL, hL, List.length_map, List.length_map])
    have hlen : xs.length = xs'.length := by
      unfold right11 at hr hr'
      rcases sz11_cases (a : Int) with ⟨hs, _⟩ | ⟨hs, _⟩ | ⟨hs, _⟩
      · rw [hs] at hr hr'
        simp only [Nat.reduceEqDiff, if_false, Bool.and_eq_true, beq_iff_eq] at hr hr'
        have := hr.2.2.symm.trans hr'.2.2
        omega
      · rw [hs] at hr hr'
        simp only [Nat.reduceEqDiff, if_false, Bool.and_eq_true, beq_iff_eq] at hr hr'
        have := hr.2.2.symm.trans hr'.2.2
        omega
      · rw [hs] at hr; simp at hr
    have e9 : xs = xs' := (List.append_inj e8 hlen).1
    refine ⟨rfl, ?_, ⟨rfl, rfl⟩, e2, by unfold sameB; exact decide_eq_true e9⟩
    obtain ⟨_, _, _, _, _, hc⟩ := right11_spec hr
    obtain ⟨_, _, _, _, _, hc'⟩ := right11_spec hr'
    apply hL_inj
    rcases hc with ⟨hs, k⟩ | hs
    · have k' : ∀ i, i < 8 → h' i < 4294967296 := by rcases hc' with ⟨_, k'⟩ | hs'; exact k'; omega
      rw [hs] at e7
      exact putBig4_inj (AllLt.map fun i hi => k i (List.mem_range.1 hi)) (AllLt.map fun i hi => k' i (List.mem_range.1 hi)) e7
    · rw [hs] at e7
      exact putBig8_inj (AllLt.map fun i _ => hh i) (AllLt.map fun i _ => hh' i) e7
  · rintro ⟨e1, e2, ⟨e3, e4⟩, e5, e6⟩
    obtain rfl : a = a' := by omega
    obtain rfl : hi = hi' := by omega
    obtain rfl : lo = lo' := by omega
    unfold sameB at e6
    have e6 := of_decide_eq_true e6
    subst e5; subst e6
    unfold blkB
    rw [hL_congr e2]
theorem bytesN_inj {f g : Nat → Nat} (hf : ∀ i, f i < 18446744073709551616) (hg : ∀ i, g i < 18446744073709551616) (h : bytesN f = bytesN g) : ∀ i, i < 25 → f i = g i := fun j hj => by
  rw [← laneOf_laneB f j (hf j), ← laneOf_laneB g j (hg j)]
  exact laneOf_congr j hj fun i hi => by rw [← bytesN_getD f i hi, ← bytesN_getD g i hi, h]
theorem bytesN_congr {f g : Nat → Nat} (h : ∀ i, i < 25 → f i = g i) : bytesN f = bytesN g := List.map_congr_left fun i hi => by
  unfold laneB
  rw [h (i / 8) (by have := List.mem_range.1 hi; omega)]
theorem text2_inj {x1 x2 y1 y2 : List Nat} (h1 : x1.length ≤ 1000000) (h2 : x2.length ≤ 1000000) (h3 : y1.length ≤ 1000000) (h4 : y2.length ≤ 1000000) (h : textN x1 ++ textN x2 = textN y1 ++ textN y2) : x1 = y1 ∧ x2 = y2 := by
  have := texts_inj [x1, x2] [y1, y2] (by intro x hx; simp at hx; rcases hx with rfl | rfl <;> assumption) (by intro x hx; simp at hx; rcases hx with rfl | rfl <;> assumption) (by simpa using h)
  simpa using this
theorem spg_apart (a a' : Nat) (f f' : Nat → Nat) (hf : ∀ i, f i < 18446744073709551616) (hf' : ∀ i, f' i < 18446744073709551616) (p p' : Nat) (rd rd' : Bool) (xs1 xs2 ys1 ys2 : List Nat)
    (hn : nmOk (kdN (idx a)) xs1.length xs2.length = true) (hn' : nmOk (kdN (idx a')) ys1.length ys2.length = true) :
    sameB (spgB a (kdN (idx a)) f p rd xs1 xs2) (spgB a' (kdN (idx a')) f' p' rd' ys1 ys2) = same20 a a' f f' p p' rd rd' xs1 xs2 ys1 ys2 := by
  rw [Bool.eq_iff_iff]
  unfold sameB same20
  simp only [decide_eq_true_eq, Bool.and_eq_true, beq_iff_eq, eqN_iff]
  constructor
  · intro e
    unfold spgB at e
    obtain ⟨e1, e2, e3⟩ := headN_inj e
    subst e1
    obtain ⟨e4, e5⟩ := List.append_inj e3 rfl
    simp only [List.cons.injEq, and_true] at e4
    obtain ⟨e6, e7⟩ := List.append_inj e5 (by rw [bytesN_length, bytesN_length])
    obtain ⟨l1, l2⟩ := nmOk_le hn
    obtain ⟨l3, l4⟩ := nmOk_le hn'
    refine ⟨rfl, bytesN_inj hf hf' e6, by omega, e2, ?_⟩
    unfold nameB at e7
    by_cases h4 : kdN (idx (a : Int)) = 4
    · rw [if_pos h4, if_pos h4] at e7
      have := text2_inj (by omega) (by omega) (by omega) (by omega) e7
      exact ⟨by unfold sameB; exact decide_eq_true this.1, by unfold sameB; exact decide_eq_true this.2⟩
    · unfold nmOk at hn hn'
      rw [if_neg h4] at hn hn'
      simp only [Bool.and_eq_true, decide_eq_true_eq] at hn hn'
      have z1 := List.eq_nil_of_length_eq_zero hn.1
      have z2 := List.eq_nil_of_length_eq_zero hn.2
      have z3 := List.eq_nil_of_length_eq_zero hn'.1
      have z4 := List.eq_nil_of_length_eq_zero hn'.2
      subst z1; subst z2; subst z3; subst z4
      exact ⟨rfl, rfl⟩
  · rintro ⟨e1, e2, e3, e4, e5, e6⟩
    obtain rfl : a = a' := by omega
    obtain rfl : p = p' := by omega
    subst e4
    unfold sameB at e5 e6
    have e5 := of_decide_eq_true e5
    have e6 := of_decide_eq_true e6
    subst e5; subst e6
    unfold spgB
    rw [bytesN_congr e2]
theorem spg_blk (a a' : Nat) (h7 : 7 ≤ a) (h6 : a' ≤ 6) (kd sz : Nat) (f h : Nat → Nat) (p hi lo : Nat) (rd fl : Bool) (xs1 xs2 xs : List Nat) : sameB (spgB a kd f p rd xs1 xs2) (blkB a' sz h hi lo xs fl) = false := by
  unfold sameB
  apply decide_eq_false
  intro e
  unfold spgB blkB at e
  have := (headN_inj e).1
  omega
end Go.Proofs.YtflgnhplbblokaaGreatDoor.Sn
end

section
namespace Go.Proofs.YtflgnhplbblokaaGreatDoor.Sn
open Go.RowKit Rw Mk Cd L64 Al Ln
set_option linter.unusedVariables false
set_option linter.unusedSimpArgs false
theorem algU_head {a : Nat} (h1 : 1 ≤ a) (h14 : a ≤ 14) (fl : Bool) (r : List Nat) : algU (headN a fl ++ r) = a := by
  unfold algU
  rw [if_pos ⟨rfl, h1, h14⟩]
  rfl
theorem pFl_head (a : Nat) (fl : Bool) (r : List Nat) : pFl (headN a fl ++ r) = fl := by cases fl <;> rfl
def pL (xs : List Nat) : Nat := (modC (numC (pHi xs) (pLo xs)) (bkN (idx (algU xs)) : Nat)).toNat
def pR (xs : List Nat) : List Nat := (xs.drop (22 + 8 * mB (algU xs))).take (pL xs)
def isB (xs : List Nat) : Bool :=
  right11 (algU xs) (pH (mB (algU xs)) xs) (numC (pHi xs) (pLo xs)) (pR xs).length && decide (blkB (algU xs) (sz11 (algU xs)) (pH (mB (algU xs)) xs) (pHi xs) (pLo xs) (pR xs) (pFl xs) = xs)
theorem pL_le (xs : List Nat) : pL xs ≤ 168 := by
  unfold pL modC
  have := bkN_le (idx (algU xs))
  split
  · rename_i h
    have h1 : ((numC (pHi xs) (pLo xs) : Nat) : Int) % ((bkN (idx (algU xs)) : Nat) : Int) < ((bkN (idx (algU xs)) : Nat) : Int) := Int.emod_lt_of_pos _ (by omega)
    omega
  · simp
theorem right11_congr {alg : Int} {h g : Nat → Nat} {V n : Nat} (e : ∀ i, i < 8 → h i = g i) : right11 alg h V n = right11 alg g V n := by
  have : low32 h = low32 g := by
    rw [Bool.eq_iff_iff, low32_iff, low32_iff]
    constructor
    · intro k i hi; rw [← e i hi]; exact k i hi
    · intro k i hi; rw [e i hi]; exact k i hi
  unfold right11
  rw [this]
theorem right11_mod {alg : Int} {h : Nat → Nat} {V n : Nat} (hr : right11 alg h V n = true) : modC V (sz11 alg : Nat) = (n : Int) := by
  unfold right11 at hr
  split at hr
  · exact absurd hr (by decide)
  · simp only [Bool.and_eq_true, beq_iff_eq] at hr
    exact hr.2.2
structure Told (a : Nat) (h : Nat → Nat) (hi lo : Nat) (rs : List Nat) (fl : Bool) (xs : List Nat) : Prop where
  alg : algU xs = a
  hi : pHi xs = hi
  lo : pLo xs = lo
  h : ∀ i, i < 8 → pH (mB a) xs i = h i
  rest : pR xs = rs
  fl : pFl xs = fl
theorem told_blk {a : Nat} {h : Nat → Nat} (hh : ∀ i, h i < 18446744073709551616) {hi lo : Nat} (b1 : hi < 18446744073709551616) (b2 : lo < 18446744073709551616) {rs : List Nat} {fl : Bool} (hr : right11 a h (numC hi lo) rs.length = true) (Z : List Nat) :
    Told a h hi lo rs fl (headN a fl ++ (putBig 8 [hi, lo] ++ (putBig (sz11 a / 16) (hL h) ++ (rs ++ Z)))) := by
  obtain ⟨a', ha', h1, h6, hlt, hc⟩ := right11_spec hr
  obtain rfl : a = a' := by omega
  have hmod := right11_mod hr
  have hsz : sz11 a = 64 ∨ sz11 a = 128 := by omega
  have hbk : bkN (idx a) = sz11 a := sz11_bk (by omega)
  have hm : mB a = sz11 a / 16 := by unfold mB; rw [hbk]; rcases hsz with e | e <;> rw [e] <;> rfl
  have hA : algU (headN a fl ++ (putBig 8 [hi, lo] ++ (putBig (sz11 a / 16) (hL h) ++ (rs ++ Z)))) = a := algU_head h1 (by omega) fl _
  have hp : putBig 8 [hi, lo] = beB 8 hi ++ beB 8 lo := by simp [putBig]
  have hlen : (putBig (sz11 a / 16) (hL h)).length = 8 * mB a := by rw [putBig_length, hL, List.length_map, List.length_range, hm]
  have d6 : ∀ r, (headN a fl ++ r).drop 6 = r := fun r => rfl
  have d14 : (headN a fl ++ (putBig 8 [hi, lo] ++ (putBig (sz11 a / 16) (hL h) ++ (rs ++ Z)))).drop 14 = beB 8 lo ++ (putBig (sz11 a / 16) (hL h) ++ (rs ++ Z)) := by
    rw [drop_more _ 6 8 14 rfl, d6, hp, List.append_assoc]
    exact List.drop_left' (beB_length 8 hi)
  have d22 : (headN a fl ++ (putBig 8 [hi, lo] ++ (putBig (sz11 a / 16) (hL h) ++ (rs ++ Z)))).drop 22 = putBig (sz11 a / 16) (hL h) ++ (rs ++ Z) := by
    rw [drop_more _ 14 8 22 rfl, d14]
    exact List.drop_left' (beB_length 8 lo)
  have e1 : pHi (headN a fl ++ (putBig 8 [hi, lo] ++ (putBig (sz11 a / 16) (hL h) ++ (rs ++ Z)))) = hi := by
    unfold pHi
    rw [d6, hp, List.append_assoc, List.take_left' (beB_length 8 hi), be_beB]
    exact Nat.mod_eq_of_lt b1
  have e2 : pLo (headN a fl ++ (putBig 8 [hi, lo] ++ (putBig (sz11 a / 16) (hL h) ++ (rs ++ Z)))) = lo := by
    unfold pLo
    rw [d14, List.take_left' (beB_length 8 lo), be_beB]
    exact Nat.mod_eq_of_lt b2
  refine ⟨hA, e1, e2, fun i h8 => ?_, ?_, pFl_head _ _ _⟩
  · unfold pH
    rw [d22, List.take_left' hlen, hm]
    have : wordsN (sz11 a / 16) be (putBig (sz11 a / 16) (hL h)) = hL h := by
      refine wordsN_flat (by omega) (beB_length _) _ fun x hx => ?_
      rw [be_beB]
      unfold hL at hx
      obtain ⟨j, hj, rfl⟩ := List.mem_map.1 hx
      have hj8 := List.mem_range.1 hj
      rcases hc with ⟨hs, k⟩ | hs
      · rw [hs]; exact Nat.mod_eq_of_lt (k j hj8)
      · rw [hs]; exact Nat.mod_eq_of_lt (hh j)
    rw [this]
    exact getD_map _ _ _ _ h8
  · unfold pR pL
    rw [hA, e1, e2, drop_more _ 22 (8 * mB a) _ rfl, d22, List.drop_left' hlen, hbk, hmod]
    exact List.take_left' rfl
theorem isB_blk {a : Nat} {h : Nat → Nat} (hh : ∀ i, h i < 18446744073709551616) {hi lo : Nat} (b1 : hi < 18446744073709551616) (b2 : lo < 18446744073709551616) {rs : List Nat} {fl : Bool} (hr : right11 a h (numC hi lo) rs.length = true) (Z : List Nat) :
    isB (headN a fl ++ (putBig 8 [hi, lo] ++ (putBig (sz11 a / 16) (hL h) ++ (rs ++ Z)))) = decide (List.replicate (sz11 a - rs.length) 0 = Z) := by
  have T := told_blk hh b1 b2 (fl := fl) hr Z
  unfold isB
  rw [T.alg, T.hi, T.lo, T.rest, T.fl, right11_congr T.h, hr, Bool.true_and]
  unfold blkB
  rw [hL_congr T.h]
  rw [Bool.eq_iff_iff, decide_eq_true_eq, decide_eq_true_eq, List.append_right_inj, List.append_right_inj, List.append_right_inj, List.append_right_inj]
structure BSpec (xs : List Nat) : Prop where
  one : 1 ≤ algU xs
  six : algU xs ≤ 6
  right : right11 (algU xs) (pH (mB (algU xs)) xs) (numC (pHi xs) (pLo xs)) (pR xs).length = true
  same : blkB (algU xs) (sz11 (algU xs)) (pH (mB (algU xs)) xs) (pHi xs) (pLo xs) (pR xs) (pFl xs) = xs
  sz : sz11 (algU xs) = 64 ∨ sz11 (algU xs) = 128
  bk : bkN (idx (algU xs)) = sz11 (algU xs)
  m : 16 * mB (algU xs) = sz11 (algU xs)
  lt : (pR xs).length < sz11 (algU xs)
  len : xs.length = 22 + 8 * mB (algU xs) + sz11 (algU xs)
  pl : pL xs < sz11 (algU xs)
theorem isB_spec {xs : List Nat} (h : isB xs = true) : BSpec xs := by
  unfold isB at h
  obtain ⟨hr, hs⟩ := Bool.and_eq_true_iff.1 h
  have hs := of_decide_eq_true hs
  obtain ⟨a, ha, h1, h6, hlt, hc⟩ := right11_spec hr
  have e : algU xs = a := by omega
  have hsz : sz11 (algU xs) = 64 ∨ sz11 (algU xs) = 128 := by omega
  have hbk : bkN (idx (algU xs)) = sz11 (algU xs) := sz11_bk (by omega)
  have hm : 16 * mB (algU xs) = sz11 (algU xs) := by
    unfold mB; rw [hbk]; rcases hsz with e | e <;> rw [e] <;> rfl
  refine ⟨by omega, by omega, hr, hs, hsz, hbk, hm, hlt, ?_, ?_⟩
  · have hl := congrArg List.length hs
    rw [blkB_length _ (by omega)] at hl
    omega
  · have hmod := right11_mod hr
    unfold pL
    rw [hbk, hmod]
    exact hlt
def uA (xs : List Nat) : Nat := if isB xs then algU xs else 0
def uH (xs : List Nat) (i : Nat) : Nat := if isB xs then pH (mB (algU xs)) xs i else 0
def uHi (xs : List Nat) : Nat := if isB xs then pHi xs else 0
def uLo (xs : List Nat) : Nat := if isB xs then pLo xs else 0
def uR (xs : List Nat) : List Nat := if isB xs then pR xs else []
def uFl (xs : List Nat) : Bool := if isB xs then pFl xs else false
theorem uH_lt {xs : List Nat} (hx : AllLt 256 xs) (i : Nat) : uH xs i < 18446744073709551616 := by
  unfold uH; split
  · exact pH_lt hx (by have := mB_or (algU xs); omega) i
  · omega
theorem uHi_lt {xs : List Nat} (hx : AllLt 256 xs) : uHi xs < 18446744073709551616 := by unfold uHi; split; exact pHi_lt hx; omega
theorem uLo_lt {xs : List Nat} (hx : AllLt 256 xs) : uLo xs < 18446744073709551616 := by unfold uLo; split; exact pLo_lt hx; omega
theorem uR_lt {xs : List Nat} (hx : AllLt 256 xs) : AllLt 256 (uR xs) := by
  unfold uR; split
  · exact (hx.drop _).take _
  · exact fun y hy => by cases hy
theorem uR_le (xs : List Nat) : (uR xs).length ≤ 168 := by
  unfold uR; split
  · unfold pR; rw [List.length_take]; have := pL_le xs; omega
  · simp
theorem right_u {xs : List Nat} (h : isB xs = true) : right11 (uA xs) (uH xs) (numC (uHi xs) (uLo xs)) (uR xs).length = true := by
  unfold uA uHi uLo uR
  rw [h, right11_congr (g := pH (mB (algU xs)) xs) (fun i _ => by unfold uH; rw [h]; rfl)]
  exact (isB_spec h).right
theorem same_u {xs : List Nat} (h : isB xs = true) : blkB (uA xs) (sz11 (uA xs)) (uH xs) (uHi xs) (uLo xs) (uR xs) (uFl xs) = xs := by
  unfold uA uHi uLo uR uFl blkB
  rw [h, hL_congr (g := pH (mB (algU xs)) xs) (fun i _ => by unfold uH; rw [h]; rfl)]
  exact (isB_spec h).same
end Go.Proofs.YtflgnhplbblokaaGreatDoor.Sn
end

section
namespace Go.Proofs.YtflgnhplbblokaaGreatDoor.Sn
open Go.RowKit Rw Mk Cd L64 Al Ln
set_option linter.unusedVariables false
set_option linter.unusedSimpArgs false
def kdU (xs : List Nat) : Nat := kdN (idx (algU xs))
def bkU (xs : List Nat) : Nat := bkN (idx (algU xs))
def pN1 (xs : List Nat) : List Nat := if kdU xs = 4 then getB (xs.drop 207) else []
def pN2 (xs : List Nat) : List Nat := if kdU xs = 4 then getB (xs.drop (207 + getE (xs.drop 207))) else []
def isP (xs : List Nat) : Bool :=
  right20 (kdU xs) (bkU xs) (pAt xs : Nat) (pFl xs) (pN1 xs).length (pN2 xs).length && decide (spgB (algU xs) (kdU xs) (pF xs) (pAt xs) (pFl xs) (pN1 xs) (pN2 xs) = xs)
theorem pN1_lt {xs : List Nat} (hx : AllLt 256 xs) : AllLt 256 (pN1 xs) := by
  unfold pN1; split
  · exact getB_lt (hx.drop _)
  · exact fun y hy => by cases hy
theorem pN2_lt {xs : List Nat} (hx : AllLt 256 xs) : AllLt 256 (pN2 xs) := by
  unfold pN2; split
  · exact getB_lt (hx.drop _)
  · exact fun y hy => by cases hy
theorem pN1_le (xs : List Nat) : (pN1 xs).length ≤ xs.length := by
  unfold pN1; split
  · exact Nat.le_trans (getB_length _) (by rw [List.length_drop]; omega)
  · simp
theorem pN2_le (xs : List Nat) : (pN2 xs).length ≤ xs.length := by
  unfold pN2; split
  · exact Nat.le_trans (getB_length _) (by rw [List.length_drop]; omega)
  · simp
structure ToldP (a : Nat) (f : Nat → Nat) (p : Nat) (rd : Bool) (x1 x2 xs : List Nat) : Prop where
  alg : algU xs = a
  at' : pAt xs = p
  fl : pFl xs = rd
  f : ∀ i, i < 25 → pF xs i = f i
  n1 : pN1 xs = x1
  n2 : pN2 xs = x2
theorem told_spg {a : Nat} (h1 : 1 ≤ a) (h14 : a ≤ 14) {f : Nat → Nat} (hf : ∀ i, f i < 18446744073709551616) {p : Nat} {rd : Bool} {x1 x2 : List Nat} (hn : nmOk (kdN (idx a)) x1.length x2.length = true) :
    ToldP a f p rd x1 x2 (spgB a (kdN (idx a)) f p rd x1 x2) := by
  have hA : algU (spgB a (kdN (idx a)) f p rd x1 x2) = a := algU_head h1 h14 rd _
  have d7 : (spgB a (kdN (idx a)) f p rd x1 x2).drop 7 = bytesN f ++ nameB (kdN (idx a)) x1 x2 := rfl
  have d207 : (spgB a (kdN (idx a)) f p rd x1 x2).drop 207 = nameB (kdN (idx a)) x1 x2 := by
    rw [drop_more _ 7 200 207 rfl, d7]
    exact List.drop_left' (bytesN_length f)
  refine ⟨hA, rfl, pFl_head a rd _, fun i hi => ?_, ?_, ?_⟩
  · unfold pF
    rw [d7, List.take_left' (bytesN_length f), laneOf_congr (h := laneB f) i hi (fun j hj => bytesN_getD f j hj)]
    exact laneOf_laneB f i (hf i)
  · unfold pN1 kdU
    rw [hA, d207]
    unfold nameB
    split
    · have hl := nmOk_le hn
      exact (gtok_text x1 (textN x2) (by omega)).2.1
    · rename_i h4
      unfold nmOk at hn
      rw [if_neg h4] at hn
      simp only [Bool.and_eq_true, decide_eq_true_eq] at hn
      exact (List.eq_nil_of_length_eq_zero hn.1).symm
  · unfold pN2 kdU
    rw [hA, d207]
    split
    · rename_i h4
      have hl := nmOk_le hn
      have g := gtok_text x1 (textN x2) (by omega)
      have g2 := gtok_text x2 [] (by omega)
      rw [drop_more _ 207 _ _ rfl, d207]
      unfold nameB
      rw [if_pos h4, g.2.2, List.drop_left' rfl]
      rw [List.append_nil] at g2
      exact g2.2.1
    · rename_i h4
      unfold nmOk at hn
      rw [if_neg h4] at hn
      simp only [Bool.and_eq_true, decide_eq_true_eq] at hn
      exact (List.eq_nil_of_length_eq_zero hn.2).symm
theorem spg_congr {a kd p : Nat} {rd : Bool} {f g : Nat → Nat} {x1 x2 : List Nat} (h : ∀ i, i < 25 → f i = g i) : spgB a kd f p rd x1 x2 = spgB a kd g p rd x1 x2 := by
  unfold spgB; rw [Ln.bytesN_congr h]
theorem isP_spg {a : Nat} {f : Nat → Nat} (hf : ∀ i, f i < 18446744073709551616) {p : Nat} {rd : Bool} {x1 x2 : List Nat} (hr : right20 (kdN (idx a)) (bkN (idx a)) (p : Nat) rd x1.length x2.length = true) :
    isP (spgB a (kdN (idx a)) f p rd x1 x2) = true := by
  obtain ⟨r1, -, -, r4⟩ := right20_spec hr
  obtain ⟨a', ha', h7, h14⟩ := idx_sponge r1
  have T := told_spg (a := a) (by omega) (by omega) hf (p := p) (rd := rd) r4
  unfold isP kdU bkU
  rw [T.alg, T.at', T.fl, T.n1, T.n2, hr, Bool.true_and, spg_congr T.f]
  exact decide_eq_true rfl
structure PSpec (xs : List Nat) : Prop where
  seven : 7 ≤ algU xs
  right : right20 (kdU xs) (bkU xs) (pAt xs : Nat) (pFl xs) (pN1 xs).length (pN2 xs).length = true
  same : spgB (algU xs) (kdU xs) (pF xs) (pAt xs) (pFl xs) (pN1 xs) (pN2 xs) = xs
  two : 2 ≤ kdU xs
  nm : nmOk (kdU xs) (pN1 xs).length (pN2 xs).length = true
  len : xs.length = 207 + (nameB (kdU xs) (pN1 xs) (pN2 xs)).length
  tail : xs.drop 207 = nameB (kdU xs) (pN1 xs) (pN2 xs)
theorem isP_spec {xs : List Nat} (h : isP xs = true) : PSpec xs := by
  unfold isP at h
  obtain ⟨hr, hs⟩ := Bool.and_eq_true_iff.1 h
  have hs := of_decide_eq_true hs
  obtain ⟨r1, -, -, r4⟩ := right20_spec hr
  obtain ⟨a', ha', h7, h14⟩ := idx_sponge (alg := (algU xs : Int)) r1
  refine ⟨by omega, hr, hs, r1, r4, ?_, ?_⟩
  · have hl := congrArg List.length hs
    rw [spgB_len] at hl
    omega
  · have : (spgB (algU xs) (kdU xs) (pF xs) (pAt xs) (pFl xs) (pN1 xs) (pN2 xs)).drop 207 = nameB (kdU xs) (pN1 xs) (pN2 xs) := by
      rw [drop_more _ 7 200 207 rfl]
      exact List.drop_left' (bytesN_length _)
    rwa [hs] at this
theorem PSpec.texts {xs : List Nat} (h : PSpec xs) (h4 : kdU xs = 4) : gtok (xs.drop 207) = true ∧ gtok (xs.drop (207 + getE (xs.drop 207))) = true := by
  have hl := nmOk_le h.nm
  have g := gtok_text (pN1 xs) (textN (pN2 xs)) (by omega)
  have g2 := gtok_text (pN2 xs) [] (by omega)
  rw [List.append_nil] at g2
  have t := h.tail
  unfold nameB at t
  rw [if_pos h4] at t
  refine ⟨by rw [t]; exact g.1, ?_⟩
  rw [drop_more _ 207 _ _ rfl, t, g.2.2, List.drop_left' rfl]
  exact g2.1
def vA (xs : List Nat) : Nat := if isP xs then algU xs else 0
def vF (xs : List Nat) (i : Nat) : Nat := if isP xs then pF xs i else 0
def vAt (xs : List Nat) : Nat := if isP xs then pAt xs else 0
def vFl (xs : List Nat) : Bool := if isP xs then pFl xs else false
def v1 (xs : List Nat) : List Nat := if isP xs then pN1 xs else []
def v2 (xs : List Nat) : List Nat := if isP xs then pN2 xs else []
theorem vF_lt {xs : List Nat} (hx : AllLt 256 xs) (i : Nat) : vF xs i < 18446744073709551616 := by unfold vF; split; exact pF_lt hx i; omega
theorem v1_lt {xs : List Nat} (hx : AllLt 256 xs) : AllLt 256 (v1 xs) := by
  unfold v1; split
  · exact pN1_lt hx
  · exact fun y hy => by cases hy
theorem v2_lt {xs : List Nat} (hx : AllLt 256 xs) : AllLt 256 (v2 xs) := by
  unfold v2; split
  · exact pN2_lt hx
  · exact fun y hy => by cases hy
theorem v1_le (xs : List Nat) : (v1 xs).length ≤ 1000 := by
  unfold v1; split
  · rename_i h; exact (nmOk_le (isP_spec h).nm).1
  · simp
theorem v2_le (xs : List Nat) : (v2 xs).length ≤ 1000 := by
  unfold v2; split
  · rename_i h; exact (nmOk_le (isP_spec h).nm).2
  · simp
theorem right_v {xs : List Nat} (h : isP xs = true) : right20 (kdN (idx (vA xs))) (bkN (idx (vA xs))) (vAt xs : Nat) (vFl xs) (v1 xs).length (v2 xs).length = true := by
  unfold vA vAt vFl v1 v2
  rw [h]
  exact (isP_spec h).right
theorem same_v {xs : List Nat} (h : isP xs = true) : spgB (vA xs) (kdN (idx (vA xs))) (vF xs) (vAt xs) (vFl xs) (v1 xs) (v2 xs) = xs := by
  unfold vA vAt vFl v1 v2
  rw [h, spg_congr (g := pF xs) (fun i _ => by unfold vF; rw [h]; rfl)]
  exact (isP_spec h).same
theorem not_both {xs : List Nat} (h : isB xs = true) : isP xs = false := by
  cases k : isP xs
  · rfl
  · have := (isB_spec h).six
    have := (isP_spec k).seven
    omega
def isU (xs : List Nat) : Bool := isB xs || isP xs
theorem blk_only {xs ys : List Nat} (h : isB xs = true) (h5 : xs.take 5 = ys.take 5) (hl : xs.length ≠ ys.length) : isU ys = false := by
  have S := isB_spec h
  have e := algU_take h5
  unfold isU
  rw [Bool.or_eq_false_iff]
  constructor
  · cases k : isB ys
    · rfl
    · have T := isB_spec k
      have s1 := S.len
      have s2 := T.len
      rw [e] at s1
      omega
  · cases k : isP ys
    · rfl
    · have := S.six
      have := (isP_spec k).seven
      omega
theorem spg_only {xs ys zs : List Nat} (h : isP xs = true) (hz : zs ≠ []) (hy : xs = ys ++ zs ∨ ys = xs ++ zs) (h5 : 5 ≤ ys.length) : isU ys = false := by
  have S := isP_spec h
  have hzl := List.length_pos_iff.2 hz
  have e : algU xs = algU ys := by
    apply algU_take
    rcases hy with e | e
    · rw [e, List.take_append_of_le_length h5]
    · rw [e, List.take_append_of_le_length (by have := S.len; omega)]
  unfold isU
  rw [Bool.or_eq_false_iff]
  constructor
  · cases k : isB ys
    · rfl
    · have := S.seven
      have := (isB_spec k).six
      omega
  · cases k : isP ys
    · rfl
    · exfalso
      have T := isP_spec k
      have ek : kdU xs = kdU ys := by unfold kdU; rw [e]
      have hxl := S.len
      have hyl := T.len
      have hlen : xs.length ≠ ys.length := by
        rcases hy with e | e <;> (rw [e, List.length_append]; omega)
      by_cases h4 : kdU ys = 4
      · have t1 := S.tail
        have t2 := T.tail
        unfold nameB at t1 t2
        rw [ek, if_pos h4] at t1
        rw [if_pos h4] at t2
        have l1 := nmOk_le S.nm
        have l2 := nmOk_le T.nm
        rcases hy with e | e
        · rw [e, List.drop_append_of_le_length (by omega), t2] at t1
          have g1 := (gtok_text (pN1 ys) (textN (pN2 ys) ++ zs) (by omega)).2
          have g2 := (gtok_text (pN1 (ys ++ zs)) (textN (pN2 (ys ++ zs))) (by rw [← e]; omega)).2
          rw [List.append_assoc] at t1
          rw [t1] at g1
          have e1 := g1.1.symm.trans g2.1
          rw [e1] at t1
          have t3 := List.append_cancel_left t1
          have g3 := (gtok_text (pN2 ys) zs (by omega)).2
          have g4 := (gtok_text (pN2 (ys ++ zs)) [] (by rw [← e]; omega)).2
          rw [List.append_nil] at g4
          rw [t3] at g3
          have e2 := g3.1.symm.trans g4.1
          rw [e2] at t3
          have := congrArg List.length t3
          rw [List.length_append] at this
          omega
        · rw [e, List.drop_append_of_le_length (by omega), t1] at t2
          have g1 := (gtok_text (pN1 xs) (textN (pN2 xs) ++ zs) (by omega)).2
          have g2 := (gtok_text (pN1 (xs ++ zs)) (textN (pN2 (xs ++ zs))) (by rw [← e]; omega)).2
          rw [List.append_assoc] at t2
          rw [t2] at g1
          have e1 := g1.1.symm.trans g2.1
          rw [e1] at t2
          have t3 := List.append_cancel_left t2
          have g3 := (gtok_text (pN2 xs) zs (by omega)).2
          have g4 := (gtok_text (pN2 (xs ++ zs)) [] (by rw [← e]; omega)).2
          rw [List.append_nil] at g4
          rw [t3] at g3
          have e2 := g3.1.symm.trans g4.1
          rw [e2] at t3
          have := congrArg List.length t3
          rw [List.length_append] at this
          omega
      · unfold nameB at hxl hyl
        rw [ek, if_neg h4] at hxl
        rw [if_neg h4] at hyl
        omega
end Go.Proofs.YtflgnhplbblokaaGreatDoor.Sn
end

section
namespace Go.Proofs.YtflgnhplbblokaaGreatDoor.Sn
open Go.RowKit Rw Cd Al Ln L64 Mk
set_option linter.unusedVariables false
set_option linter.unusedSimpArgs false
theorem conv_nil (w : World) : (convert 22 9 (.slice none 0 0)).run Tryz.prog w = .ok (.string ⟨#[]⟩) w := by kernel_rfl
theorem strOf_ne {ys : List Nat} (h : ys ≠ []) : ((strOfNums (intsN ys)).toList.isEmpty) = false := by
  rw [Lib.strOfNums_toList]
  rcases ys with _ | ⟨y, ys⟩
  · exact absurd rfl h
  · rfl
set_option maxHeartbeats 1000000 in
theorem equal_nil (B : Option Addr) (d : Nat) (ys : List Nat) (hy0 : ys ≠ []) (w : World) (hw2 : Words .u8 w B ys) :
    Calls Tryz.prog 86 #[.slice none 0 0, .slice B ys.length d] w fun e w' => e = .returned (.bool false) ∧ w = w' := by
  have h1 := conv_nil w
  have h2 := conv_words d hw2 hy0
  have hq := strOf_ne hy0
  have hq2 : (([] : List UInt8) == (strOfNums (intsN ys)).toList) = false := by
    cases h : (strOfNums (intsN ys)).toList with
    | nil => rw [h] at hq; exact absurd hq (by decide)
    | cons x l => rfl
  have hq3 : ¬ (strOfNums (intsN ys)).toList = [] := fun h => by rw [h] at hq; exact absurd hq (by decide)
  have hq4 : ¬ ([] : List UInt8) = (strOfNums (intsN ys)).toList := fun h => hq3 h.symm
  clear hw2 hy0
  generalize strOfNums (intsN ys) = s2 at *
  go_enter Tryz.func86, Tryz.ntmps86
  go_wp2
  go_ret
  refine ⟨?_, rfl⟩
  simp [hq, hq2, hq3, hq4]
theorem hold_of (x y : Value) (b : Bool) (w : World) (HE : Calls Tryz.prog 86 #[x, y] w fun e w' => e = .returned (.bool b) ∧ w = w') :
    Calls Tryz.prog 56 #[x, y] w fun e w' => e = (if b then .returned (.tuple #[]) else .panicked thrown) ∧ w = w' := by
  have HE := Lib.hid HE
  cases b with
  | true =>
    go_enter Tryz.func56, Tryz.ntmps56
    go_wp2_with (first
      | (go_at_call 86; (with_reducible refine HE.out.mono ?_); rintro e u1 ⟨rfl, rfl⟩)
      | (go_at_call 81; (with_reducible refine (demand_yes _).mono ?_); rintro e u2 ⟨rfl, rfl⟩))
    go_end0
    exact ⟨rfl, rfl⟩
  | false =>
    go_enter Tryz.func56, Tryz.ntmps56
    go_wp2_with (first
      | (go_at_call 86; (with_reducible refine HE.out.mono ?_); rintro e u1 ⟨rfl, rfl⟩)
      | (go_at_call 81; (with_reducible refine (demand_no _).mono ?_); rintro e u2 ⟨rfl, rfl⟩))
    exact ⟨rfl, rfl, rfl⟩
theorem setCells_rowU {n k : Nat} : ∀ (vs : List Value) (o : Nat) (u : Array Value) (W : World), Hold W n k u → u.size = k → W.setCells n o vs = W.setRow n ((List.range vs.length).foldl (fun u j => u.setIfInBounds (o + j) (vs.getD j undef)) u) := by
  intro vs
  induction vs with
  | nil =>
    intro o u W h hu
    obtain ⟨t, hg, _⟩ := h.heap
    exact (setRow_self _ _ _ _ _ hg).symm
  | cons v vs ih =>
    intro o u W h hu
    show (W.setCell ⟨n, o, none⟩ v).setCells n (o + 1) vs = _
    rw [h.setCell o v, ih (o + 1) (u.setIfInBounds o v) _ (h.set _ (by simp [hu])) (by simp [hu]), setRow_setRow]
    congr 1
    rw [List.length_cons, List.range_succ_eq_map, List.foldl_cons, List.foldl_map]
    refine congrArg (fun F => List.foldl F (u.setIfInBounds o v) (List.range vs.length)) ?_
    funext u j
    simp [Nat.add_assoc, Nat.add_comm 1 j]
theorem hold_there {W : World} {n k o m : Nat} {u : Array Value} (h : Hold W n k u) (hu : u.size = k) (ho : o + m ≤ k) : W.there n o m := fun j hj =>
  ⟨by rw [h.cell (i := o + j) (Array.getElem?_eq_getElem (by omega))]; rfl, h.frozen _⟩
theorem u8_list (g : Nat → Nat) : (uTab 8 g).toList = [.int .u64 (g 0 : Nat), .int .u64 (g 1 : Nat), .int .u64 (g 2 : Nat), .int .u64 (g 3 : Nat), .int .u64 (g 4 : Nat), .int .u64 (g 5 : Nat), .int .u64 (g 6 : Nat), .int .u64 (g 7 : Nat)] := rfl
theorem u25_listU (g : Nat → Nat) : (uTab 25 g).toList = [.int .u64 (g 0 : Nat), .int .u64 (g 1 : Nat), .int .u64 (g 2 : Nat), .int .u64 (g 3 : Nat), .int .u64 (g 4 : Nat), .int .u64 (g 5 : Nat), .int .u64 (g 6 : Nat), .int .u64 (g 7 : Nat), .int .u64 (g 8 : Nat), .int .u64 (g 9 : Nat), .int .u64 (g 10 : Nat), .int .u64 (g 11 : Nat), .int .u64 (g 12 : Nat), .int .u64 (g 13 : Nat), .int .u64 (g 14 : Nat), .int .u64 (g 15 : Nat), .int .u64 (g 16 : Nat), .int .u64 (g 17 : Nat), .int .u64 (g 18 : Nat), .int .u64 (g 19 : Nat), .int .u64 (g 20 : Nat), .int .u64 (g 21 : Nat), .int .u64 (g 22 : Nat), .int .u64 (g 23 : Nat), .int .u64 (g 24 : Nat)] := rfl
theorem run_storeC9 {W : World} {n : Nat} {alg : Int} {h : Nat → Nat} {hi lo : Nat} {s : Value} {fl : Bool} (H : Hold W n 13 (blkV alg h hi lo s fl)) (hi' lo' : Nat) :
    (storeRow 27 (.pointer (some ⟨n, 9, none⟩)) (.agg #[.int .u64 (hi' : Nat), .int .u64 (lo' : Nat)])).run Tryz.prog W = .ok () (W.setRow n (blkV alg h hi' lo' s fl)) := by
  have := run_storeAt_mid (P := Tryz.prog) W n 9 27 #[.int .u64 (hi' : Nat), .int .u64 (lo' : Nat)] (hold_there (m := 2) H rfl (by omega)) (by kernel_rfl) (two_ones _ _)
  rw [setCells_rowU _ _ _ _ H rfl] at this
  exact this
theorem run_storeH1 {W : World} {n : Nat} {alg : Int} {h : Nat → Nat} {hi lo : Nat} {s : Value} {fl : Bool} (H : Hold W n 13 (blkV alg h hi lo s fl)) (g : Nat → Nat) :
    (storeRow 25 (.pointer (some ⟨n, 1, none⟩)) (.agg (uTab 8 g))).run Tryz.prog W = .ok () (W.setRow n (blkV alg g hi lo s fl)) := by
  have := run_storeAt_mid (P := Tryz.prog) W n 1 25 (uTab 8 g) (by rw [uTab_size]; exact hold_there H rfl (by omega)) (by rw [uTab_size]; kernel_rfl) (uTab_ones 8 g)
  rw [setCells_rowU _ _ _ _ H rfl] at this
  have e : (List.range (uTab 8 g).toList.length).foldl (fun u j => u.setIfInBounds (1 + j) ((uTab 8 g).toList.getD j undef)) (blkV alg h hi lo s fl) = blkV alg g hi lo s fl := by
    rw [u8_list]
    kernel_rfl
  rw [e] at this
  exact this
theorem blkV_rest (alg : Int) (h : Nat → Nat) (hi lo : Nat) (s s' : Value) (fl : Bool) : (blkV alg h hi lo s fl).setIfInBounds 11 s' = blkV alg h hi lo s' fl := rfl
theorem zeroBU (w : World) : (zeroValue 29).run Tryz.prog w = .ok (.agg (blkV 0 (fun _ => 0) 0 0 (.slice none 0 0) false)) w := by kernel_rfl
theorem bsBU (parts : Array (Nat × Value)) : Instr.build 29 parts = bsem 29 parts := rfl
theorem storeBU (x y : Value) : Instr.storeAt 29 x y = storeRow 29 x y := rfl
theorem run_storeBU {w : World} {n : Nat} {c' : Array Value} (hg : RowOk w n 13) (hs' : c'.size = 13) (h1 : OneCells c') :
    (storeRow 29 (.pointer (some ⟨n, 0, none⟩)) (.agg c')).run Tryz.prog w = .ok () (w.setRow n c') := storeAt_row hg (by kernel_rfl) hs' h1
theorem run_bsB4 (a : Int) (fl : Bool) (W : World) : (bsem 29 #[(0, .int .i64 a), (4, .bool fl)]).run Tryz.prog W = .ok (.agg (blkV a (fun _ => 0) 0 0 (.slice none 0 0) fl)) W := run_build W 29 _ _ (by kernel_rfl)
theorem spV_tail (alg : Int) (f : Nat → Nat) (p : Int) (rd : Bool) (s1 s2 : Value) : spV alg f p rd s1 s2 = ([.int .i64 alg] ++ (uTab 25 f).toList ++ [.int .i64 p, .bool rd, s1, s2] : List Value).toArray := by
  unfold spV
  apply Array.toList_inj.1
  simp
theorem run_storeL1 {W : World} {n : Nat} {alg p : Int} {f : Nat → Nat} {rd : Bool} {s1 s2 : Value} (H : Hold W n 30 (spV alg f p rd s1 s2)) (g : Nat → Nat) :
    (storeRow 34 (.pointer (some ⟨n, 1, none⟩)) (.agg (uTab 25 g))).run Tryz.prog W = .ok () (W.setRow n (spV alg g p rd s1 s2)) := by
  have := run_storeAt_mid (P := Tryz.prog) W n 1 34 (uTab 25 g) (by rw [uTab_size]; exact hold_there H spV_size (by omega)) (by rw [uTab_size]; kernel_rfl) (uTab_ones 25 g)
  rw [setCells_rowU _ _ _ _ H spV_size] at this
  have e : (List.range (uTab 25 g).toList.length).foldl (fun u j => u.setIfInBounds (1 + j) ((uTab 25 g).toList.getD j undef)) (spV alg f p rd s1 s2) = spV alg g p rd s1 s2 := by
    rw [spV_tail, spV_tail, u25_listU, u25_listU]
    kernel_rfl
  rw [e] at this
  exact this
theorem spV_put (alg : Int) (f : Nat → Nat) (p p' : Int) (rd : Bool) (s1 s2 : Value) : (spV alg f p rd s1 s2).setIfInBounds 26 (.int .i64 p') = spV alg f p' rd s1 s2 := by
  rw [spV_tail, spV_tail, u25_listU]; kernel_rfl
theorem spV_put1 (alg : Int) (f : Nat → Nat) (p : Int) (rd : Bool) (s1 s2 s : Value) : (spV alg f p rd s1 s2).setIfInBounds 28 s = spV alg f p rd s s2 := by
  rw [spV_tail, spV_tail, u25_listU]; kernel_rfl
theorem spV_put2 (alg : Int) (f : Nat → Nat) (p : Int) (rd : Bool) (s1 s2 s : Value) : (spV alg f p rd s1 s2).setIfInBounds 29 s = spV alg f p rd s1 s := by
  rw [spV_tail, spV_tail, u25_listU]; kernel_rfl
theorem zeroSU (w : World) : (zeroValue 38).run Tryz.prog w = .ok (.agg (spV 0 (fun _ => 0) 0 false (.slice none 0 0) (.slice none 0 0))) w := by kernel_rfl
theorem bsSU (parts : Array (Nat × Value)) : Instr.build 38 parts = bsem 38 parts := rfl
theorem storeSU (x y : Value) : Instr.storeAt 38 x y = storeRow 38 x y := rfl
theorem run_storeSU {w : World} {n : Nat} {c' : Array Value} (hg : RowOk w n 30) (hs' : c'.size = 30) (h1 : OneCells c') :
    (storeRow 38 (.pointer (some ⟨n, 0, none⟩)) (.agg c')).run Tryz.prog w = .ok () (w.setRow n c') := storeAt_row hg (by kernel_rfl) hs' h1
theorem run_bsS3 (a : Int) (fl : Bool) (W : World) : (bsem 38 #[(0, .int .i64 a), (3, .bool fl)]).run Tryz.prog W = .ok (.agg (spV a (fun _ => 0) 0 fl (.slice none 0 0) (.slice none 0 0))) W := run_build W 38 _ _ (by kernel_rfl)
theorem spV_ones {alg : Int} {f : Nat → Nat} {p : Int} {rd : Bool} {A1 A2 : Option Addr} {n1 c1 n2 c2 : Nat} : OneCells (spV alg f p rd (.slice A1 n1 c1) (.slice A2 n2 c2)) := by
  rw [spV_tail, u25_listU]
  unfold OneCells
  simp [Value.oneCell']
end Go.Proofs.YtflgnhplbblokaaGreatDoor.Sn
end

section
namespace Go.Proofs.YtflgnhplbblokaaGreatDoor.Sn
open Go.RowKit Rw Cd Al Ln L64 Mk
set_option linter.unusedVariables false
set_option linter.unusedSimpArgs false
structure BI (w : World) (R k q S : Nat) (z : Array Value) (ys : List Nat) (u : Array Value) (W : World) : Prop where
  rd : ∃ A c, RD q A c ys W
  cell : Hold W S k u
  res : Hold W R k z
  below : Below R w W
  rq : R < q
  qs : q < S
theorem BI.call {w W W' : World} {R k q S : Nat} {z u : Array Value} {ys : List Nat} (h : BI w R k q S z ys u W) (hb : Below W.heap.size W W') : BI w R k q S z ys u W' := by
  obtain ⟨⟨A, c, h1⟩, h2, h3, h4, h5, h6⟩ := h
  exact ⟨⟨A, c, h1.below hb⟩, h2.call hb, h3.call hb, h4.trans (hb.mono (Nat.le_of_lt h3.lt)), h5, h6⟩
theorem BI.read {w W W' : World} {R k q S : Nat} {z u : Array Value} {ys ys' : List Nat} {A : Option Addr} {c : Nat} (h : BI w R k q S z ys u W) (hr : RD q A c ys' W') (hk : RKeep q W W') : BI w R k q S z ys' u W' :=
  ⟨⟨A, c, hr⟩, hk.hold h.cell (by have := h.qs; omega), hk.hold h.res (by have := h.rq; omega), h.below.trans (hk.below.mono (by have := h.rq; omega)), h.rq, h.qs⟩
theorem BI.set {w W : World} {R k q S : Nat} {z u : Array Value} {ys : List Nat} (h : BI w R k q S z ys u W) (u' : Array Value) (hu : u'.size = k) : BI w R k q S z ys u' (W.setRow S u') := by
  obtain ⟨⟨A, c, h1⟩, h2, h3, h4, h5, h6⟩ := h
  exact ⟨⟨A, c, h1.setRow h6 _⟩, h2.set _ hu, h3.other _ (by omega), below_setRow h4 (by omega) _, h5, h6⟩
theorem words_setRow {k : IntKind} {W : World} {B : Option Addr} {xs : List Nat} {S : Nat} (h : Words k W B xs) (hB : xs ≠ [] → ∀ a, B = some a → S < a.block) (u : Array Value) : Words k (W.setRow S u) B xs := fun i hi => by
  obtain ⟨g, o, e, hc⟩ := h i hi
  have hlt : S < g := hB (fun e => by rw [e] at hi; exact absurd hi (by simp)) ⟨g, o, none⟩ e
  exact ⟨g, o, e, (cell_setRow_other W S _ ⟨g, o + i, none⟩ (show g ≠ S by omega)).trans hc⟩
theorem pL_cast (xs : List Nat) : modC (numC (pHi xs) (pLo xs)) (bkN (idx (algU xs)) : Nat) = ((pL xs : Nat) : Int) := by
  unfold pL
  have : 0 ≤ modC (numC (pHi xs) (pLo xs)) (bkN (idx (algU xs)) : Nat) := by
    unfold modC
    split
    · exact Int.emod_nonneg _ (by omega)
    · exact Int.le_refl _
  omega
def zB : Array Value := blkV 0 (fun _ => 0) 0 0 (.slice none 0 0) false
theorem zB_size : zB.size = 13 := rfl
theorem wordsU (bk m : Nat) (hm : m = if bk = 64 then 4 else 8) (q : Nat) (A : Option Addr) (c : Nat) (ys : List Nat) (hl : 8 * m ≤ ys.length) (w : World) (h : RD q A c ys w) :
    Calls Tryz.prog 52 #[.pointer (some ⟨q, 0, none⟩), .int .i64 (bk : Nat)] w fun e w' => ∃ A' c',
      e = .returned (.agg (uTab 8 fun i => (wordsN m be (ys.take (8 * m))).getD i 0)) ∧ RD q A' c' (ys.drop (8 * m)) w' ∧ RKeep q w w' := by
  by_cases h64 : bk = 64
  · rw [if_pos h64] at hm
    subst hm; subst h64
    exact words4_yes q A c ys (by omega) w h
  · rw [if_neg h64] at hm
    subst hm
    exact words8_yes q A c ys bk h64 (by omega) w h
theorem wordsU_no (bk m : Nat) (hm : m = if bk = 64 then 4 else 8) (q : Nat) (A : Option Addr) (c : Nat) (ys : List Nat) (hl : ys.length < 8 * m) (w : World) (h : RD q A c ys w) :
    Calls Tryz.prog 52 #[.pointer (some ⟨q, 0, none⟩), .int .i64 (bk : Nat)] w fun e w' => e = .panicked thrown ∧ Below w.heap.size w w' := by
  by_cases h64 : bk = 64
  · rw [if_pos h64] at hm
    subst hm; subst h64
    exact words4_no q A c ys (by omega) w h
  · rw [if_neg h64] at hm
    subst hm
    exact words8_no q A c ys bk h64 (by omega) w h
def Thrown (R : Nat) (w : World) (e : Ending) (w' : World) : Prop := e = .panicked thrown ∧ Below R w w'
section
attribute [local go_sem ↓] loadB storeBU zeroBU bsBU load8k store8k zero8k
attribute [local go_sem] run_bsB4
set_option maxRecDepth 100000 in
set_option maxHeartbeats 4000000 in
theorem readBlock_core (ok : Bool) (a bk m hi lo n : Nat) (fl : Bool) (h : Nat → Nat) (ys rs : List Nat) (s : Value) (w : World)
    (CB : Calls Tryz.prog 49 #[s] (w.alloc (.cells zB 29)) fun e w' => ∃ q A' c', e = .returned (.tuple #[.pointer (some ⟨q, 0, none⟩), .int .i64 (a : Nat), .bool fl]) ∧ RD q A' c' ys w' ∧ (w.alloc (.cells zB 29)).heap.size ≤ q ∧ Below (w.alloc (.cells zB 29)).heap.size (w.alloc (.cells zB 29)) w')
    (CK : ∀ W, Below w.heap.size w W → Calls Tryz.prog 50 #[.int .i64 (a : Nat)] W fun e w' => e = .returned (.int .i64 (bk : Nat)) ∧ Below W.heap.size W w')
    (CC : ∀ q S u W, BI w w.heap.size 13 q S zB ys u W → Calls Tryz.prog 51 #[.pointer (some ⟨q, 0, none⟩)] W fun e w' => e = .returned (.agg #[.int .u64 (hi : Nat), .int .u64 (lo : Nat)]) ∧ BI w w.heap.size 13 q S zB (ys.drop 16) u w')
    (CW : ∀ q S u W, BI w w.heap.size 13 q S zB (ys.drop 16) u W → Calls Tryz.prog 52 #[.pointer (some ⟨q, 0, none⟩), .int .i64 (bk : Nat)] W fun e w' => e = .returned (.agg (uTab 8 h)) ∧ BI w w.heap.size 13 q S zB ((ys.drop 16).drop (8 * m)) u w')
    (CM : ∀ W, Calls Tryz.prog 55 #[.agg #[.int .u64 (hi : Nat), .int .u64 (lo : Nat)], .int .i64 (bk : Nat)] W fun e w' => e = .returned (.int .i64 (n : Nat)) ∧ Below W.heap.size W w')
    (CT : ∀ q S u W, BI w w.heap.size 13 q S zB ((ys.drop 16).drop (8 * m)) u W → Calls Tryz.prog 54 #[.pointer (some ⟨q, 0, none⟩), .int .i64 (n : Nat)] W fun e w' => ∃ B d, e = .returned (.slice B n d) ∧ Words .u8 w' B rs ∧ BI w w.heap.size 13 q S zB (((ys.drop 16).drop (8 * m)).drop n) u w')
    (CL : ∀ B d W, Words .u8 W B rs → Calls Tryz.prog 53 #[.slice B n d] W fun e w' => ∃ B' d', e = .returned (.slice B' n d') ∧ Words .u8 w' B' rs ∧ (rs ≠ [] → ∀ a, B' = some a → W.heap.size ≤ a.block) ∧ Below W.heap.size W w')
    (HS : ∀ W B d, Below w.heap.size w W → Words .u8 W B rs → Calls Tryz.prog 18 #[.agg (blkV a h hi lo (.slice B n d) fl)] W fun e w' => ∃ v er, e = .returned (.tuple #[v, .int .i64 er]) ∧ Below W.heap.size W w' ∧
      Calls Tryz.prog 56 #[v, s] w' fun e w'' => e = (if ok then .returned (.tuple #[]) else .panicked thrown) ∧ w' = w'') :
    Calls Tryz.prog 25 #[s] w fun e w' => (if ok then ∃ B d, e = .returned (.agg (blkV a h hi lo (.slice B n d) fl)) ∧ Words .u8 w' B rs ∧ (rs ≠ [] → ∀ a, B = some a → w.heap.size ≤ a.block) else e = .panicked thrown) ∧ Below w.heap.size w w' := by
  have CB := Lib.hid CB
  have CK := Lib.hid CK
  have CC := Lib.hid CC
  have CW := Lib.hid CW
  have CM := Lib.hid CM
  have CT := Lib.hid CT
  have CL := Lib.hid CL
  have HS := Lib.hid HS
  have HZ := Lib.hid (show zB = blkV 0 (fun _ => 0) 0 0 (.slice none 0 0) false from rfl)
  rw [HZ.out] at CB
  have H0 := Lib.hid (Hold.new w (blkV 0 (fun _ => 0) 0 0 (.slice none 0 0) false) 29 13 rfl)
  have B0 := Lib.hid ((Below.refl w.heap.size w).alloc (Nat.le_refl _) (.cells (blkV 0 (fun _ => 0) 0 0 (.slice none 0 0) false) 29))
  cases ok with
  | true =>
    go_enter Tryz.func25, Tryz.ntmps25
    go_wp2_with (first
      | (go_at_call 49
         (with_reducible refine CB.out.mono ?_)
         rintro e u1 ⟨q, A', c', rfl, k1, k2, k3⟩
         have hq : w.heap.size < q := by simp at k2; omega
         have HQ := Lib.hid hq
         have R1 := Lib.hid k1
         have H1 := Lib.hid (H0.out.call k3)
         have B1 := Lib.hid (B0.out.trans (k3.mono B0.out.size))
         clear k1 k2 k3 hq)
      | (go_at_call 50
         (with_reducible refine (CK.out _ B1.out).mono ?_)
         rintro e u2 ⟨rfl, hb⟩
         have s1 := run_storeBU (Hold.new u2 (blkV 0 (fun _ => 0) 0 0 (.slice none 0 0) false) 29 13 rfl).ok (c' := blkV a (fun _ => 0) 0 0 (.slice none 0 0) fl) rfl blkV_ones
         have F3 : Hid (BI w w.heap.size 13 q u2.heap.size zB ys (blkV a (fun _ => 0) 0 0 (.slice none 0 0) fl) (u2.alloc (.cells (blkV a (fun _ => 0) 0 0 (.slice none 0 0) fl) 29))) := by
           have b2 := B1.out.trans (hb.mono B1.out.size)
           exact ⟨⟨_, _, (R1.out.below hb).alloc _⟩, Hold.new u2 _ _ 13 rfl, ((H1.out.call hb).past _), b2.alloc b2.size _, HQ.out, (R1.out.below hb).hold.lt⟩
         clear hb)
      | (go_at_call 51
         (with_reducible refine (CC.out _ _ _ _ F3.out).mono ?_)
         rintro e u3 ⟨rfl, k1⟩
         have s2 := run_storeC9 k1.cell hi lo
         have F4 := Lib.hid (k1.set (blkV a (fun _ => 0) hi lo (.slice none 0 0) fl) rfl)
         clear k1 s1)
      | (go_at_call 52
         (with_reducible refine (CW.out _ _ _ _ F4.out).mono ?_)
         rintro e u4 ⟨rfl, k1⟩
         have s3 := run_storeH1 k1.cell h
         have k2 := k1.set (blkV a h hi lo (.slice none 0 0) fl) rfl
         have s4 := blk_count k2.cell
         have F5 := Lib.hid k2
         clear k1 k2 s2)
      | (go_at_call 55
         (with_reducible refine (CM.out _).mono ?_)
         rintro e u5 ⟨rfl, hb⟩
         have F6 := Lib.hid (F5.out.call hb)
         clear hb s3 s4)
      | (go_at_call 54
         (with_reducible refine (CT.out _ _ _ _ F6.out).mono ?_)
         rintro e u6 ⟨B, d, rfl, hw, k1⟩
         have F7 := Lib.hid k1
         have W7 := Lib.hid hw
         clear k1 hw)
      | (go_at_call 53
         (with_reducible refine (CL.out _ _ _ W7.out).mono ?_)
         rintro e u7 ⟨B', d', rfl, hw, hn, hb⟩
         have k1 := F7.out.call hb
         have hnS : rs ≠ [] → ∀ a, B' = some a → u2.heap.size < a.block := fun h1 a h2 => Nat.lt_of_lt_of_le F7.out.cell.lt (hn h1 a h2)
         have HN := Lib.hid hnS
         have q1 := k1.cell.setCell 11 (.slice B' n d')
         rw [blkV_rest] at q1
         have q2 := k1.cell.frozen 11
         have q3 : u7.cell? ⟨u2.heap.size, 11, none⟩ = some (.slice none 0 0) := k1.cell.cell rfl
         have k2 := k1.set (blkV a h hi lo (.slice B' n d') fl) rfl
         have q4 := k2.cell.load (T := 29) Tryz.underlying29 rfl (by kernel_rfl)
         have W8 := Lib.hid (words_setRow hw hnS (blkV a h hi lo (.slice B' n d') fl))
         have F8 := Lib.hid k2
         clear k1 k2 hnS hw hn hb)
      | (go_at_call 18
         (with_reducible refine (HS.out _ _ _ F8.out.below W8.out).mono ?_)
         rintro e u8 ⟨v, er, rfl, hb, hh⟩
         have k1 := F8.out.call hb
         have HO := Lib.hid hh
         have W9 := Lib.hid (W8.out.below hb (Nat.le_refl _))
         have q5 := k1.cell.load (T := 29) Tryz.underlying29 rfl (by kernel_rfl)
         have s5 := run_storeBU k1.res.ok (c' := blkV a h hi lo (.slice B' n d') fl) rfl blkV_ones
         have HF := Lib.hid (k1.res.set (blkV a h hi lo (.slice B' n d') fl) rfl)
         have HB9 := Lib.hid (below_setRow k1.below (Nat.le_refl _) (blkV a h hi lo (.slice B' n d') fl))
         have HRS := Lib.hid (show w.heap.size < u2.heap.size from Nat.lt_trans k1.rq k1.qs)
         clear k1 hb hh q1 q2 q3 q4)
      | (go_at_call 56
         (with_reducible refine HO.out.mono ?_)
         rintro e u9 ⟨he, rfl⟩
         obtain rfl := he))
    refine al_ret (p := 2) rfl rfl HF.out.ok HF.out.at' Tryz.underlying29 rfl (by kernel_rfl) rfl ⟨?_, HB9.out⟩
    exact ⟨B', ⟨d', rfl⟩, words_setRow W9.out (fun h1 a h2 => Nat.lt_trans HRS.out (HN.out h1 a h2)) _, fun h1 a h2 => Nat.le_of_lt (Nat.lt_trans HRS.out (HN.out h1 a h2))⟩
  | false =>
    go_enter Tryz.func25, Tryz.ntmps25
    go_wp2_with (first
      | (go_at_call 49
         (with_reducible refine CB.out.mono ?_)
         rintro e u1 ⟨q, A', c', rfl, k1, k2, k3⟩
         have hq : w.heap.size < q := by simp at k2; omega
         have HQ := Lib.hid hq
         have R1 := Lib.hid k1
         have H1 := Lib.hid (H0.out.call k3)
         have B1 := Lib.hid (B0.out.trans (k3.mono B0.out.size))
         clear k1 k2 k3 hq)
      | (go_at_call 50
         (with_reducible refine (CK.out _ B1.out).mono ?_)
         rintro e u2 ⟨rfl, hb⟩
         have s1 := run_storeBU (Hold.new u2 (blkV 0 (fun _ => 0) 0 0 (.slice none 0 0) false) 29 13 rfl).ok (c' := blkV a (fun _ => 0) 0 0 (.slice none 0 0) fl) rfl blkV_ones
         have F3 : Hid (BI w w.heap.size 13 q u2.heap.size zB ys (blkV a (fun _ => 0) 0 0 (.slice none 0 0) fl) (u2.alloc (.cells (blkV a (fun _ => 0) 0 0 (.slice none 0 0) fl) 29))) := by
           have b2 := B1.out.trans (hb.mono B1.out.size)
           exact ⟨⟨_, _, (R1.out.below hb).alloc _⟩, Hold.new u2 _ _ 13 rfl, ((H1.out.call hb).past _), b2.alloc b2.size _, HQ.out, (R1.out.below hb).hold.lt⟩
         clear hb)
      | (go_at_call 51
         (with_reducible refine (CC.out _ _ _ _ F3.out).mono ?_)
         rintro e u3 ⟨rfl, k1⟩
         have s2 := run_storeC9 k1.cell hi lo
         have F4 := Lib.hid (k1.set (blkV a (fun _ => 0) hi lo (.slice none 0 0) fl) rfl)
         clear k1 s1)
      | (go_at_call 52
         (with_reducible refine (CW.out _ _ _ _ F4.out).mono ?_)
         rintro e u4 ⟨rfl, k1⟩
         have s3 := run_storeH1 k1.cell h
         have k2 := k1.set (blkV a h hi lo (.slice none 0 0) fl) rfl
         have s4 := blk_count k2.cell
         have F5 := Lib.hid k2
         clear k1 k2 s2)
      | (go_at_call 55
         (with_reducible refine (CM.out _).mono ?_)
         rintro e u5 ⟨rfl, hb⟩
         have F6 := Lib.hid (F5.out.call hb)
         clear hb s3 s4)
      | (go_at_call 54
         (with_reducible refine (CT.out _ _ _ _ F6.out).mono ?_)
         rintro e u6 ⟨B, d, rfl, hw, k1⟩
         have F7 := Lib.hid k1
         have W7 := Lib.hid hw
         clear k1 hw)
      | (go_at_call 53
         (with_reducible refine (CL.out _ _ _ W7.out).mono ?_)
         rintro e u7 ⟨B', d', rfl, hw, hn, hb⟩
         have k1 := F7.out.call hb
         have hnS : rs ≠ [] → ∀ a, B' = some a → u2.heap.size < a.block := fun h1 a h2 => Nat.lt_of_lt_of_le F7.out.cell.lt (hn h1 a h2)
         have q1 := k1.cell.setCell 11 (.slice B' n d')
         rw [blkV_rest] at q1
         have q2 := k1.cell.frozen 11
         have q3 : u7.cell? ⟨u2.heap.size, 11, none⟩ = some (.slice none 0 0) := k1.cell.cell rfl
         have k2 := k1.set (blkV a h hi lo (.slice B' n d') fl) rfl
         have q4 := k2.cell.load (T := 29) Tryz.underlying29 rfl (by kernel_rfl)
         have W8 := Lib.hid (words_setRow hw hnS (blkV a h hi lo (.slice B' n d') fl))
         have F8 := Lib.hid k2
         clear k1 k2 hnS hw hn hb)
      | (go_at_call 18
         (with_reducible refine (HS.out _ _ _ F8.out.below W8.out).mono ?_)
         rintro e u8 ⟨v, er, rfl, hb, hh⟩
         have HB9 := Lib.hid (F8.out.call hb).below
         have HO := Lib.hid hh
         clear hb hh q1 q2 q3 q4)
      | (go_at_call 56
         (with_reducible refine HO.out.mono ?_)
         rintro e u9 ⟨he, rfl⟩
         obtain rfl := he))
    exact ⟨rfl, rfl, HB9.out⟩
end
end Go.Proofs.YtflgnhplbblokaaGreatDoor.Sn
end
