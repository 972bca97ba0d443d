/- Layer 21: the document's Block. | Layer 21: the document's Block: what it tells. | Layer 21: the document's Sponge. | Layer 16: the document's own answers: what is told again. | Layer 21: the document's Sponge: what it tells. -/
import Derived.Test.YtflgnhplbblokaaGreatDoorBnh
import Derived.Test.YtflgnhplbblokaaGreatDoorBng
import Derived.Test.YtflgnhplbblokaaGreatDoorBne
import Derived.Test.YtflgnhplbblokaaGreatDoorBnf
import Derived.Test.YtflgnhplbblokaaGreatDoorBnd
import Derived.Deep.CutRange
import Derived.Shelf.RegionOpenPlain
section
namespace Go.Proofs.YtflgnhplbblokaaGreatDoor.Sn
open Go.RowKit Rw Cd Al Ln L64 Mk
set_option linter.unusedVariables false
set_option linter.unusedSimpArgs false
structure RB (w : World) (u : Array Value) (A : Option Addr) (xs : List Nat) (W : World) : Prop where
  below : Below w.heap.size w W
  res : Hold W w.heap.size 13 (blkV 0 (fun _ => 0) 0 0 (.slice none 0 0) false)
  cell : Hold W (w.heap.size + 1) 13 u
  words : Words .u8 W A xs
  low : xs ≠ [] → ∀ a, A = some a → a.block < w.heap.size
theorem RB.call {w W W' : World} {u : Array Value} {A : Option Addr} {xs : List Nat} (h : RB w u A xs W) (hb : Below W.heap.size W W') : RB w u A xs W' :=
  ⟨h.below.trans (hb.mono h.below.size), h.res.call hb, h.cell.call hb, h.words.below hb (Nat.le_refl _), h.low⟩
theorem RB.drew {w W : World} {u : Array Value} {A : Option Addr} {xs : List Nat} (h : RB w u A xs W) : RB w u A xs W.drew := h.call (below_drew (Below.refl _ _))
theorem RB.set {w W : World} {u : Array Value} {A : Option Addr} {xs : List Nat} (h : RB w u A xs W) (u' : Array Value) (hu : u'.size = 13) : RB w u' A xs (W.setRow (w.heap.size + 1) u') :=
  ⟨below_setRow h.below (by omega) _, h.res.other _ (by omega), h.cell.set _ hu, words_keepB h.words (fun hn a e => Nat.lt_succ_of_lt (h.low hn a e)) (below_setRow (Below.refl _ _) (Nat.le_refl _) _), h.low⟩
theorem cut2_run (A : Option Addr) (n c l h : Nat) (hl : l ≤ h) (hh : h ≤ c) (w : World) :
    (cutAt 22 (.slice A n c) (some (.int .i64 (l : Nat))) (some (.int .i64 (h : Nat))) none).run Tryz.prog w = .ok (.slice (cutA A c l) (h - l) (c - l)) w := by
  unfold cutAt Instr.sliceAt cutA
  rw [Sem.run_bind, run_underlying Tryz.underlying22 w]
  have h1 : (0 : Int) ≤ (h : Int) := by omega
  have h2 : (h : Int) ≤ (c : Int) := by omega
  have h3 : (0 : Int) ≤ (l : Int) := by omega
  have h4 : (l : Int) ≤ (h : Int) := by omega
  simp [Result.andThen, Instr.slice, Sem.run_bind, run_underlying Tryz.underlying22 w, Instr.sliceBounds, Instr.sliceBound, asIntOf, hh, hl]
theorem bsBU0 (W : World) : (bsem 29 #[]).run Tryz.prog W = .ok (.agg (blkV 0 (fun _ => 0) 0 0 (.slice none 0 0) false)) W := run_build W 29 _ _ (by kernel_rfl)
section
attribute [local go_sem ↓] loadB storeBU zeroBU bsBU cut_hide
attribute [local go_sem] run_bsB4 bsBU0
set_option maxRecDepth 100000 in
set_option maxHeartbeats 2000000 in
theorem refBlock_core64 (ok1 ok2 : Bool) (a hi lo n x5 : Nat) (fl : Bool) (f : Nat → Nat) (b0 o c : Nat) (A : Option Addr) (xs rs zs : List Nat) (w : World) (hA : A = some ⟨b0, o, none⟩) (hlen : xs.length = 118) (hc : 118 ≤ c) (hn : n < 64)
    (hw : Words .u8 w A xs) (h5 : w.cell? ⟨b0, o + 5, none⟩ = some (.int .u8 (x5 : Nat))) (hfl : (((x5 : Nat) : Int) == 1) = fl)
    (CA : ∀ W, Words .u8 W A xs → Calls Tryz.prog 16 #[.slice A 118 c] W fun e w' => e = .returned (.int .i64 (a : Nat)) ∧ W = w')
    (CZ : ∀ W, Calls Tryz.prog 23 #[.int .i64 (a : Nat)] W fun e w' => e = .returned (.int .i64 64) ∧ W = w')
    (CB1 : ∀ W, Words .u8 W A xs → Calls Tryz.prog 28 #[.slice (cutA A c 6) 16 (c - 6), .int .i64 8] W fun e w' => ∃ g1 c1, e = .returned (.slice (some ⟨g1, 0, none⟩) 2 c1) ∧ w'.cell? ⟨g1, 0, none⟩ = some (.int .u64 (hi : Nat)) ∧ w'.cell? ⟨g1, 1, none⟩ = some (.int .u64 (lo : Nat)) ∧ W.heap.size ≤ g1 ∧ Below W.heap.size W w')
    (CB2 : ∀ W, Words .u8 W A xs → Calls Tryz.prog 28 #[.slice (cutA A c 22) 32 (c - 22), .int .i64 4] W fun e w' => ∃ g1 c1, e = .returned (.slice (some ⟨g1, 0, none⟩) 8 c1) ∧ (∀ i, i < 8 → w'.cell? ⟨g1, i, none⟩ = some (.int .u64 (f i : Nat))) ∧ W.heap.size ≤ g1 ∧ Below W.heap.size W w')
    (CM : ∀ W, Calls Tryz.prog 29 #[.agg #[.int .u64 (hi : Nat), .int .u64 (lo : Nat)], .int .i64 64] W fun e w' => e = .returned (.int .i64 (n : Nat)) ∧ Below W.heap.size W w')
    (CR : ∀ W, Calls Tryz.prog 21 #[.agg (blkV a f hi lo (.slice (cutA A c 54) n (c - 54)) fl)] W fun e w' => e = .returned (.bool ok1) ∧ Below W.heap.size W w')
    (CK : ok1 = true → ∀ W, Words .u8 W A xs → Calls Tryz.prog 30 #[.agg (blkV a f hi lo (.slice (cutA A c 54) n (c - 54)) fl)] W fun e w' => ∃ A9 c9, e = .returned (.slice A9 zs.length c9) ∧ Words .u8 w' A9 zs ∧ Below W.heap.size W w')
    (CS : ok1 = true → ∀ W A9 c9, Words .u8 W A9 zs → Words .u8 W A xs → Calls Tryz.prog 19 #[.slice A9 zs.length c9, .slice A 118 c] W fun e w' => e = .returned (.bool ok2) ∧ Below W.heap.size W w') :
    Calls Tryz.prog 11 #[.slice A 118 c] w fun e w' => e = .returned (.tuple #[.agg (if ok1 && ok2 then blkV a f hi lo (.slice (cutA A c 54) n (c - 54)) fl else blkV 0 (fun _ => 0) 0 0 (.slice none 0 0) false), .bool (ok1 && ok2)]) ∧ Below w.heap.size w w' := by
  have hb0 : Below w.heap.size w (w.alloc (.cells (blkV 0 (fun _ => 0) 0 0 (.slice none 0 0) false) 29)) := (Below.refl _ w).alloc (Nat.le_refl _) _
  have FW := Lib.hid (hw.below hb0 (Nat.le_refl _))
  have hlow : xs ≠ [] → ∀ a, A = some a → a.block < w.heap.size := fun hn a e => by
    obtain ⟨g', o', e', hl, -⟩ := hw.block (i := 0) (by omega)
    rw [e] at e'; cases e'; exact hl
  have q0 : (w.alloc (.cells (blkV 0 (fun _ => 0) 0 0 (.slice none 0 0) false) 29)).cell? ⟨b0, o + 5, none⟩ = some (.int .u8 (x5 : Nat)) := (hb0.cell (p := ⟨b0, o + 5, none⟩) (hlow (fun e => by rw [e] at hlen; simp at hlen) ⟨b0, o, none⟩ hA)).trans h5
  have FS : Hid (RB w (blkV a (fun _ => 0) 0 0 (.slice none 0 0) fl) A xs ((w.alloc (.cells (blkV 0 (fun _ => 0) 0 0 (.slice none 0 0) false) 29)).alloc (.cells (blkV a (fun _ => 0) 0 0 (.slice none 0 0) fl) 29))) :=
    ⟨hb0.alloc (by simp) _, (Hold.new w _ _ 13 rfl).past _, Hold.new1 w _ _ _ 13 rfl, FW.out.below ((Below.refl _ _).alloc (Nat.le_refl _) _) (Nat.le_refl _), hlow⟩
  have s1 := run_storeBU (Hold.new1 w (.cells (blkV 0 (fun _ => 0) 0 0 (.slice none 0 0) false) 29) (blkV 0 (fun _ => 0) 0 0 (.slice none 0 0) false) 29 13 rfl).ok (c' := blkV a (fun _ => 0) 0 0 (.slice none 0 0) fl) rfl blkV_ones
  have c1 : ∀ W, (cutAt 22 (.slice A 118 c) (some (.int .i64 6)) (some (.int .i64 22)) none).run Tryz.prog W = .ok (.slice (cutA A c 6) 16 (c - 6)) W := fun W => cut2_run A 118 c 6 22 (by omega) (by omega) W
  have c2 : ∀ W, (cutAt 22 (.slice A 118 c) (some (.int .i64 22)) (some (.int .i64 54)) none).run Tryz.prog W = .ok (.slice (cutA A c 22) 32 (c - 22)) W := fun W => cut2_run A 118 c 22 54 (by omega) (by omega) W
  have c3 : ∀ W, (cutAt 22 (.slice A 118 c) (some (.int .i64 54)) (some (.int .i64 ((54 + n : Nat) : Int))) none).run Tryz.prog W = .ok (.slice (cutA A c 54) (54 + n - 54) (c - 54)) W := fun W => cut2_run A 118 c 54 (54 + n) (by omega) (by omega) W
  rw [show 54 + n - 54 = n by omega] at c3
  rw [show ((54 + n : Nat) : Int) = 54 + (n : Int) by omega] at c3
  have hwr : IntKind.i64.wrap (54 + (n : Int)) = 54 + (n : Int) := by rw [IntKind.wrap_i64]; omega
  replace CA := Lib.hid CA
  replace CZ := Lib.hid CZ
  replace CB1 := Lib.hid CB1
  replace CB2 := Lib.hid CB2
  replace CM := Lib.hid CM
  replace CR := Lib.hid CR
  clear hw h5 hb0 hlow hlen
  have HA := Lib.hid hA
  cases ok1 with
  | false =>
    clear CK CS
    subst hA
    go_enter Tryz.func11, Tryz.ntmps11
    go_wp2_with (first
      | (go_at_call 16; (with_reducible refine (CA.out _ FW.out).mono ?_); rintro e u1 ⟨rfl, rfl⟩)
      | (go_at_call 23; (with_reducible refine (CZ.out _).mono ?_); rintro e u1 ⟨rfl, rfl⟩)
      | (go_at_call 28
         (with_reducible refine (CB1.out _ FS.out.words).mono ?_)
         rintro e u1 ⟨g1, c1, rfl, hc1, hc2, hg, hb⟩
         have k1 := (FS.out.call hb)
         have hd := k1.drew
         have F1 := Lib.hid hd
         have p1 : u1.drew.cell? ⟨g1, 0, none⟩ = some (.int .u64 (hi : Nat)) := hc1
         have p2 : u1.drew.cell? ⟨g1, 1, none⟩ = some (.int .u64 (lo : Nat)) := hc2
         have p3 := run_storeC9 hd.cell hi lo
         clear hb hc1 hc2 k1 hd s1 hg))
    refine wp_region_still_tail 8 (by kernel_rfl) (by kernel_rfl) ?_
    change wpStill _ _ u1.drew (fun a' => wpList _ _ _ _ a' u1.drew) _ _
    generalize u1.drew = W3 at *
    simp only [List.take_succ_cons, List.take_zero, List.drop_succ_cons, List.drop_zero]
    repeat still_step
    refine wpStill_nil ?_
    go_wp2_with (first
      | (go_at_call 28
         (with_reducible refine (CB2.out _ (F1.out.set (blkV a (fun _ => 0) hi lo (.slice none 0 0) fl) rfl).words).mono ?_)
         rintro e u2 ⟨g, c2, rfl, hD, hg, hb⟩
         have k1 := ((F1.out.set (blkV a (fun _ => 0) hi lo (.slice none 0 0) fl) rfl).call hb)
         have hgl : w.heap.size + 1 < g := Nat.lt_of_lt_of_le ((F1.out.set (blkV a (fun _ => 0) hi lo (.slice none 0 0) fl) rfl).cell.lt) hg
         have HG := Lib.hid hgl
         have F0 : Hid (RB w (blkV a (vUp f 0) hi lo (.slice none 0 0) fl) (some ⟨b0, o, none⟩) xs u2 ∧ ∀ i, i < 8 → u2.cell? ⟨g, i, none⟩ = some (.int .u64 (f i : Nat))) := by
           rw [blkV_congr (h := vUp f 0) (g := fun _ => 0) (fun i hi => by unfold vUp; rw [if_neg (by omega)])]
           exact ⟨k1, hD⟩
         clear hb hD hg hgl k1 p1 p2 p3))
    go_loopg [54] 8 (fun n i wr => ∃ k : Nat, k + n = 8 ∧ i = .int .i64 (k : Nat) ∧ Hid (RB w (blkV a (vUp f k) hi lo (.slice none 0 0) fl) (some ⟨b0, o, none⟩) xs wr ∧ ∀ i, i < 8 → wr.cell? ⟨g, i, none⟩ = some (.int .u64 (f i : Nat))))
    case atStart => exact ⟨0, by omega, rfl, F0⟩
    case round =>
      clear F0
      obtain ⟨k, hk, rfl, HRR⟩ := hrel
      by_cases h8 : k < 8
      · obtain ⟨n', rfl⟩ : ∃ n', gk = n' + 1 := ⟨gk - 1, by omega⟩
        obtain ⟨hR, hD⟩ := HRR.out
        clear HRR
        have q1 := hD k h8
        have q2 := hR.cell.frozen (1 + k)
        have q3 := hR.cell.setCell (1 + k)
        have q4 : wr.cell? ⟨w.heap.size + 1, 1 + k, none⟩ = some (.int .u64 (vUp f k k : Nat)) := hR.cell.cell (blk_h h8)
        have i1 : (k : Int) < 8 := by omega
        have HS := Lib.hid (blkV_set a f hi lo (.slice none 0 0) fl k h8 (f k : Nat) rfl)
        have F1 : Hid (∀ v, RB w ((blkV a (vUp f k) hi lo (.slice none 0 0) fl).setIfInBounds (1 + k) v) (some ⟨b0, o, none⟩) xs (wr.setRow (w.heap.size + 1) ((blkV a (vUp f k) hi lo (.slice none 0 0) fl).setIfInBounds (1 + k) v)) ∧ ∀ i, i < 8 → (wr.setRow (w.heap.size + 1) ((blkV a (vUp f k) hi lo (.slice none 0 0) fl).setIfInBounds (1 + k) v)).cell? ⟨g, i, none⟩ = some (.int .u64 (f i : Nat))) := fun v =>
          ⟨hR.set _ (by rw [Array.size_setIfInBounds]; rfl), fun i hi => (cell_setRow_other wr (w.heap.size + 1) _ ⟨g, i, none⟩ (show g ≠ w.heap.size + 1 by have := HG.out; omega)).trans (hD i hi)⟩
        clear hR hD
        generalize vUp f k k = y0 at *
        generalize f k = y at *
        go_wp2
        go_roundg n'
        case measure => omega
        case rel => exact ⟨k + 1, by omega, by go_num, by have := F1.out (.int .u64 (y : Nat)); rw [HS.out] at this ⊢; exact this⟩
      · obtain rfl : k = 8 := by omega
        obtain ⟨hR, -⟩ := HRR.out
        clear HRR
        rw [blkV_congr (g := f) (fun i hi => by unfold vUp; rw [if_pos hi])] at hR
        have q5 := blk_count hR.cell
        have F2 := Lib.hid hR
        clear hR
        go_wp2_with (first
          | (go_at_call 29
             (with_reducible refine (CM.out _).mono ?_)
             rintro e u4 ⟨rfl, hb⟩
             have k1 := F2.out.call hb
             have q6 := k1.cell.setCell 11 (.slice (cutA (some ⟨b0, o, none⟩) c 54) n (c - 54))
             rw [blkV_rest] at q6
             have q7 := k1.cell.frozen 11
             have q8 : u4.cell? ⟨w.heap.size + 1, 11, none⟩ = some (.slice none 0 0) := k1.cell.cell rfl
             have k2 := k1.set (blkV a f hi lo (.slice (cutA (some ⟨b0, o, none⟩) c 54) n (c - 54)) fl) rfl
             have q9 := k2.cell.load (T := 29) Tryz.underlying29 rfl (by kernel_rfl)
             have F3 := Lib.hid k2
             clear k1 k2 hb q5)
          | (go_at_call 21
             (with_reducible refine (CR.out _).mono ?_)
             rintro e u5 ⟨rfl, hb⟩
             have k1 := F3.out.call hb
             have F4 := Lib.hid k1
             have s5 := run_storeBU k1.res.ok (c' := blkV 0 (fun _ => 0) 0 0 (.slice none 0 0) false) rfl blkV_ones
             clear hb k1 q6 q7 q8 q9))
        refine row_tmp_ret (P := Tryz.prog) (n := w.heap.size) (k := 13) (c := blkV 0 (fun _ => 0) 0 0 (.slice none 0 0) false) rfl rfl rfl (F4.out.res.set _ rfl) Tryz.underlying29 rfl (by kernel_rfl) rfl ⟨rfl, below_setRow F4.out.below (Nat.le_refl _) _⟩
  | true =>
    replace CK := Lib.hid (CK rfl)
    replace CS := Lib.hid (CS rfl)
    subst hA
    cases ok2 with
    | false =>
      go_enter Tryz.func11, Tryz.ntmps11
      go_wp2_with (first
        | (go_at_call 16; (with_reducible refine (CA.out _ FW.out).mono ?_); rintro e u1 ⟨rfl, rfl⟩)
        | (go_at_call 23; (with_reducible refine (CZ.out _).mono ?_); rintro e u1 ⟨rfl, rfl⟩)
        | (go_at_call 28
           (with_reducible refine (CB1.out _ FS.out.words).mono ?_)
           rintro e u1 ⟨g1, c1, rfl, hc1, hc2, hg, hb⟩
           have k1 := (FS.out.call hb)
           have hd := k1.drew
           have F1 := Lib.hid hd
           have p1 : u1.drew.cell? ⟨g1, 0, none⟩ = some (.int .u64 (hi : Nat)) := hc1
           have p2 : u1.drew.cell? ⟨g1, 1, none⟩ = some (.int .u64 (lo : Nat)) := hc2
           have p3 := run_storeC9 hd.cell hi lo
           clear hb hc1 hc2 k1 hd s1 hg))
      refine wp_region_still_tail 8 (by kernel_rfl) (by kernel_rfl) ?_
      change wpStill _ _ u1.drew (fun a' => wpList _ _ _ _ a' u1.drew) _ _
      generalize u1.drew = W3 at *
      simp only [List.take_succ_cons, List.take_zero, List.drop_succ_cons, List.drop_zero]
      repeat still_step
      refine wpStill_nil ?_
      go_wp2_with (first
        | (go_at_call 28
           (with_reducible refine (CB2.out _ (F1.out.set (blkV a (fun _ => 0) hi lo (.slice none 0 0) fl) rfl).words).mono ?_)
           rintro e u2 ⟨g, c2, rfl, hD, hg, hb⟩
           have k1 := ((F1.out.set (blkV a (fun _ => 0) hi lo (.slice none 0 0) fl) rfl).call hb)
           have hgl : w.heap.size + 1 < g := Nat.lt_of_lt_of_le ((F1.out.set (blkV a (fun _ => 0) hi lo (.slice none 0 0) fl) rfl).cell.lt) hg
           have HG := Lib.hid hgl
           have F0 : Hid (RB w (blkV a (vUp f 0) hi lo (.slice none 0 0) fl) (some ⟨b0, o, none⟩) xs u2 ∧ ∀ i, i < 8 → u2.cell? ⟨g, i, none⟩ = some (.int .u64 (f i : Nat))) := by
             rw [blkV_congr (h := vUp f 0) (g := fun _ => 0) (fun i hi => by unfold vUp; rw [if_neg (by omega)])]
             exact ⟨k1, hD⟩
           clear hb hD hg hgl k1 p1 p2 p3))
      go_loopg [54] 8 (fun n i wr => ∃ k : Nat, k + n = 8 ∧ i = .int .i64 (k : Nat) ∧ Hid (RB w (blkV a (vUp f k) hi lo (.slice none 0 0) fl) (some ⟨b0, o, none⟩) xs wr ∧ ∀ i, i < 8 → wr.cell? ⟨g, i, none⟩ = some (.int .u64 (f i : Nat))))
      case atStart => exact ⟨0, by omega, rfl, F0⟩
      case round =>
        clear F0
        obtain ⟨k, hk, rfl, HRR⟩ := hrel
        by_cases h8 : k < 8
        · obtain ⟨n', rfl⟩ : ∃ n', gk = n' + 1 := ⟨gk - 1, by omega⟩
          obtain ⟨hR, hD⟩ := HRR.out
          clear HRR
          have q1 := hD k h8
          have q2 := hR.cell.frozen (1 + k)
          have q3 := hR.cell.setCell (1 + k)
          have q4 : wr.cell? ⟨w.heap.size + 1, 1 + k, none⟩ = some (.int .u64 (vUp f k k : Nat)) := hR.cell.cell (blk_h h8)
          have i1 : (k : Int) < 8 := by omega
          have HS := Lib.hid (blkV_set a f hi lo (.slice none 0 0) fl k h8 (f k : Nat) rfl)
          have F1 : Hid (∀ v, RB w ((blkV a (vUp f k) hi lo (.slice none 0 0) fl).setIfInBounds (1 + k) v) (some ⟨b0, o, none⟩) xs (wr.setRow (w.heap.size + 1) ((blkV a (vUp f k) hi lo (.slice none 0 0) fl).setIfInBounds (1 + k) v)) ∧ ∀ i, i < 8 → (wr.setRow (w.heap.size + 1) ((blkV a (vUp f k) hi lo (.slice none 0 0) fl).setIfInBounds (1 + k) v)).cell? ⟨g, i, none⟩ = some (.int .u64 (f i : Nat))) := fun v =>
            ⟨hR.set _ (by rw [Array.size_setIfInBounds]; rfl), fun i hi => (cell_setRow_other wr (w.heap.size + 1) _ ⟨g, i, none⟩ (show g ≠ w.heap.size + 1 by have := HG.out; omega)).trans (hD i hi)⟩
          clear hR hD
          generalize vUp f k k = y0 at *
          generalize f k = y at *
          go_wp2
          go_roundg n'
          case measure => omega
          case rel => exact ⟨k + 1, by omega, by go_num, by have := F1.out (.int .u64 (y : Nat)); rw [HS.out] at this ⊢; exact this⟩
        · obtain rfl : k = 8 := by omega
          obtain ⟨hR, -⟩ := HRR.out
          clear HRR
          rw [blkV_congr (g := f) (fun i hi => by unfold vUp; rw [if_pos hi])] at hR
          have q5 := blk_count hR.cell
          have F2 := Lib.hid hR
          clear hR
          go_wp2_with (first
            | (go_at_call 29
               (with_reducible refine (CM.out _).mono ?_)
               rintro e u4 ⟨rfl, hb⟩
               have k1 := F2.out.call hb
               have q6 := k1.cell.setCell 11 (.slice (cutA (some ⟨b0, o, none⟩) c 54) n (c - 54))
               rw [blkV_rest] at q6
               have q7 := k1.cell.frozen 11
               have q8 : u4.cell? ⟨w.heap.size + 1, 11, none⟩ = some (.slice none 0 0) := k1.cell.cell rfl
               have k2 := k1.set (blkV a f hi lo (.slice (cutA (some ⟨b0, o, none⟩) c 54) n (c - 54)) fl) rfl
               have q9 := k2.cell.load (T := 29) Tryz.underlying29 rfl (by kernel_rfl)
               have F3 := Lib.hid k2
               clear k1 k2 hb q5)
            | (go_at_call 21
               (with_reducible refine (CR.out _).mono ?_)
               rintro e u5 ⟨rfl, hb⟩
               have k1 := F3.out.call hb
               have F4 := Lib.hid k1
               have q10 := k1.cell.load (T := 29) Tryz.underlying29 rfl (by kernel_rfl)
               clear hb k1 q6 q7 q8 q9)
            | (go_at_call 30
               (with_reducible refine (CK.out _ F4.out.words).mono ?_)
               rintro e u6 ⟨A9, c9, rfl, hw9, hb⟩
               have F5 := Lib.hid (F4.out.call hb)
               have W9 := Lib.hid hw9
               clear hb hw9 q10)
            | (go_at_call 19
               (with_reducible refine (CS.out _ _ _ W9.out F5.out.words).mono ?_)
               rintro e u7 ⟨rfl, hb⟩
               have k1 := F5.out.call hb
               have F6 := Lib.hid k1
               have q11 := k1.cell.load (T := 29) Tryz.underlying29 rfl (by kernel_rfl)
               have s5 := run_storeBU k1.res.ok (c' := (blkV 0 (fun _ => 0) 0 0 (.slice none 0 0) false)) rfl blkV_ones
               clear hb k1))
          refine row_tmp_ret (P := Tryz.prog) (n := w.heap.size) (k := 13) (c := (blkV 0 (fun _ => 0) 0 0 (.slice none 0 0) false)) rfl rfl rfl (F6.out.res.set _ rfl) Tryz.underlying29 rfl (by kernel_rfl) rfl ⟨rfl, below_setRow F6.out.below (Nat.le_refl _) _⟩
    | true =>
      go_enter Tryz.func11, Tryz.ntmps11
      go_wp2_with (first
        | (go_at_call 16; (with_reducible refine (CA.out _ FW.out).mono ?_); rintro e u1 ⟨rfl, rfl⟩)
        | (go_at_call 23; (with_reducible refine (CZ.out _).mono ?_); rintro e u1 ⟨rfl, rfl⟩)
        | (go_at_call 28
           (with_reducible refine (CB1.out _ FS.out.words).mono ?_)
           rintro e u1 ⟨g1, c1, rfl, hc1, hc2, hg, hb⟩
           have k1 := (FS.out.call hb)
           have hd := k1.drew
           have F1 := Lib.hid hd
           have p1 : u1.drew.cell? ⟨g1, 0, none⟩ = some (.int .u64 (hi : Nat)) := hc1
           have p2 : u1.drew.cell? ⟨g1, 1, none⟩ = some (.int .u64 (lo : Nat)) := hc2
           have p3 := run_storeC9 hd.cell hi lo
           clear hb hc1 hc2 k1 hd s1 hg))
      refine wp_region_still_tail 8 (by kernel_rfl) (by kernel_rfl) ?_
      change wpStill _ _ u1.drew (fun a' => wpList _ _ _ _ a' u1.drew) _ _
      generalize u1.drew = W3 at *
      simp only [List.take_succ_cons, List.take_zero, List.drop_succ_cons, List.drop_zero]
      repeat still_step
      refine wpStill_nil ?_
      go_wp2_with (first
        | (go_at_call 28
           (with_reducible refine (CB2.out _ (F1.out.set (blkV a (fun _ => 0) hi lo (.slice none 0 0) fl) rfl).words).mono ?_)
           rintro e u2 ⟨g, c2, rfl, hD, hg, hb⟩
           have k1 := ((F1.out.set (blkV a (fun _ => 0) hi lo (.slice none 0 0) fl) rfl).call hb)
           have hgl : w.heap.size + 1 < g := Nat.lt_of_lt_of_le ((F1.out.set (blkV a (fun _ => 0) hi lo (.slice none 0 0) fl) rfl).cell.lt) hg
           have HG := Lib.hid hgl
           have F0 : Hid (RB w (blkV a (vUp f 0) hi lo (.slice none 0 0) fl) (some ⟨b0, o, none⟩) xs u2 ∧ ∀ i, i < 8 → u2.cell? ⟨g, i, none⟩ = some (.int .u64 (f i : Nat))) := by
             rw [blkV_congr (h := vUp f 0) (g := fun _ => 0) (fun i hi => by unfold vUp; rw [if_neg (by omega)])]
             exact ⟨k1, hD⟩
           clear hb hD hg hgl k1 p1 p2 p3))
      go_loopg [54] 8 (fun n i wr => ∃ k : Nat, k + n = 8 ∧ i = .int .i64 (k : Nat) ∧ Hid (RB w (blkV a (vUp f k) hi lo (.slice none 0 0) fl) (some ⟨b0, o, none⟩) xs wr ∧ ∀ i, i < 8 → wr.cell? ⟨g, i, none⟩ = some (.int .u64 (f i : Nat))))
      case atStart => exact ⟨0, by omega, rfl, F0⟩
      case round =>
        clear F0
        obtain ⟨k, hk, rfl, HRR⟩ := hrel
        by_cases h8 : k < 8
        · obtain ⟨n', rfl⟩ : ∃ n', gk = n' + 1 := ⟨gk - 1, by omega⟩
          obtain ⟨hR, hD⟩ := HRR.out
          clear HRR
          have q1 := hD k h8
          have q2 := hR.cell.frozen (1 + k)
          have q3 := hR.cell.setCell (1 + k)
          have q4 : wr.cell? ⟨w.heap.size + 1, 1 + k, none⟩ = some (.int .u64 (vUp f k k : Nat)) := hR.cell.cell (blk_h h8)
          have i1 : (k : Int) < 8 := by omega
          have HS := Lib.hid (blkV_set a f hi lo (.slice none 0 0) fl k h8 (f k : Nat) rfl)
          have F1 : Hid (∀ v, RB w ((blkV a (vUp f k) hi lo (.slice none 0 0) fl).setIfInBounds (1 + k) v) (some ⟨b0, o, none⟩) xs (wr.setRow (w.heap.size + 1) ((blkV a (vUp f k) hi lo (.slice none 0 0) fl).setIfInBounds (1 + k) v)) ∧ ∀ i, i < 8 → (wr.setRow (w.heap.size + 1) ((blkV a (vUp f k) hi lo (.slice none 0 0) fl).setIfInBounds (1 + k) v)).cell? ⟨g, i, none⟩ = some (.int .u64 (f i : Nat))) := fun v =>
            ⟨hR.set _ (by rw [Array.size_setIfInBounds]; rfl), fun i hi => (cell_setRow_other wr (w.heap.size + 1) _ ⟨g, i, none⟩ (show g ≠ w.heap.size + 1 by have := HG.out; omega)).trans (hD i hi)⟩
          clear hR hD
          generalize vUp f k k = y0 at *
          generalize f k = y at *
          go_wp2
          go_roundg n'
          case measure => omega
          case rel => exact ⟨k + 1, by omega, by go_num, by have := F1.out (.int .u64 (y : Nat)); rw [HS.out] at this ⊢; exact this⟩
        · obtain rfl : k = 8 := by omega
          obtain ⟨hR, -⟩ := HRR.out
          clear HRR
          rw [blkV_congr (g := f) (fun i hi => by unfold vUp; rw [if_pos hi])] at hR
          have q5 := blk_count hR.cell
          have F2 := Lib.hid hR
          clear hR
          go_wp2_with (first
            | (go_at_call 29
               (with_reducible refine (CM.out _).mono ?_)
               rintro e u4 ⟨rfl, hb⟩
               have k1 := F2.out.call hb
               have q6 := k1.cell.setCell 11 (.slice (cutA (some ⟨b0, o, none⟩) c 54) n (c - 54))
               rw [blkV_rest] at q6
               have q7 := k1.cell.frozen 11
               have q8 : u4.cell? ⟨w.heap.size + 1, 11, none⟩ = some (.slice none 0 0) := k1.cell.cell rfl
               have k2 := k1.set (blkV a f hi lo (.slice (cutA (some ⟨b0, o, none⟩) c 54) n (c - 54)) fl) rfl
               have q9 := k2.cell.load (T := 29) Tryz.underlying29 rfl (by kernel_rfl)
               have F3 := Lib.hid k2
               clear k1 k2 hb q5)
            | (go_at_call 21
               (with_reducible refine (CR.out _).mono ?_)
               rintro e u5 ⟨rfl, hb⟩
               have k1 := F3.out.call hb
               have F4 := Lib.hid k1
               have q10 := k1.cell.load (T := 29) Tryz.underlying29 rfl (by kernel_rfl)
               clear hb k1 q6 q7 q8 q9)
            | (go_at_call 30
               (with_reducible refine (CK.out _ F4.out.words).mono ?_)
               rintro e u6 ⟨A9, c9, rfl, hw9, hb⟩
               have F5 := Lib.hid (F4.out.call hb)
               have W9 := Lib.hid hw9
               clear hb hw9 q10)
            | (go_at_call 19
               (with_reducible refine (CS.out _ _ _ W9.out F5.out.words).mono ?_)
               rintro e u7 ⟨rfl, hb⟩
               have k1 := F5.out.call hb
               have F6 := Lib.hid k1
               have q11 := k1.cell.load (T := 29) Tryz.underlying29 rfl (by kernel_rfl)
               have s5 := run_storeBU k1.res.ok (c' := (blkV a f hi lo (.slice (cutA (some ⟨b0, o, none⟩) c 54) n (c - 54)) fl)) rfl blkV_ones
               clear hb k1))
          refine row_tmp_ret (P := Tryz.prog) (n := w.heap.size) (k := 13) (c := (blkV a f hi lo (.slice (cutA (some ⟨b0, o, none⟩) c 54) n (c - 54)) fl)) rfl rfl rfl (F6.out.res.set _ rfl) Tryz.underlying29 rfl (by kernel_rfl) rfl ⟨rfl, below_setRow F6.out.below (Nat.le_refl _) _⟩
set_option maxRecDepth 100000 in
set_option maxHeartbeats 2000000 in
theorem refBlock_core128 (ok1 ok2 : Bool) (a hi lo n x5 : Nat) (fl : Bool) (f : Nat → Nat) (b0 o c : Nat) (A : Option Addr) (xs rs zs : List Nat) (w : World) (hA : A = some ⟨b0, o, none⟩) (hlen : xs.length = 214) (hc : 214 ≤ c) (hn : n < 128)
    (hw : Words .u8 w A xs) (h5 : w.cell? ⟨b0, o + 5, none⟩ = some (.int .u8 (x5 : Nat))) (hfl : (((x5 : Nat) : Int) == 1) = fl)
    (CA : ∀ W, Words .u8 W A xs → Calls Tryz.prog 16 #[.slice A 214 c] W fun e w' => e = .returned (.int .i64 (a : Nat)) ∧ W = w')
    (CZ : ∀ W, Calls Tryz.prog 23 #[.int .i64 (a : Nat)] W fun e w' => e = .returned (.int .i64 128) ∧ W = w')
    (CB1 : ∀ W, Words .u8 W A xs → Calls Tryz.prog 28 #[.slice (cutA A c 6) 16 (c - 6), .int .i64 8] W fun e w' => ∃ g1 c1, e = .returned (.slice (some ⟨g1, 0, none⟩) 2 c1) ∧ w'.cell? ⟨g1, 0, none⟩ = some (.int .u64 (hi : Nat)) ∧ w'.cell? ⟨g1, 1, none⟩ = some (.int .u64 (lo : Nat)) ∧ W.heap.size ≤ g1 ∧ Below W.heap.size W w')
    (CB2 : ∀ W, Words .u8 W A xs → Calls Tryz.prog 28 #[.slice (cutA A c 22) 64 (c - 22), .int .i64 8] W fun e w' => ∃ g1 c1, e = .returned (.slice (some ⟨g1, 0, none⟩) 8 c1) ∧ (∀ i, i < 8 → w'.cell? ⟨g1, i, none⟩ = some (.int .u64 (f i : Nat))) ∧ W.heap.size ≤ g1 ∧ Below W.heap.size W w')
    (CM : ∀ W, Calls Tryz.prog 29 #[.agg #[.int .u64 (hi : Nat), .int .u64 (lo : Nat)], .int .i64 128] W fun e w' => e = .returned (.int .i64 (n : Nat)) ∧ Below W.heap.size W w')
    (CR : ∀ W, Calls Tryz.prog 21 #[.agg (blkV a f hi lo (.slice (cutA A c 86) n (c - 86)) fl)] W fun e w' => e = .returned (.bool ok1) ∧ Below W.heap.size W w')
    (CK : ok1 = true → ∀ W, Words .u8 W A xs → Calls Tryz.prog 30 #[.agg (blkV a f hi lo (.slice (cutA A c 86) n (c - 86)) fl)] W fun e w' => ∃ A9 c9, e = .returned (.slice A9 zs.length c9) ∧ Words .u8 w' A9 zs ∧ Below W.heap.size W w')
    (CS : ok1 = true → ∀ W A9 c9, Words .u8 W A9 zs → Words .u8 W A xs → Calls Tryz.prog 19 #[.slice A9 zs.length c9, .slice A 214 c] W fun e w' => e = .returned (.bool ok2) ∧ Below W.heap.size W w') :
    Calls Tryz.prog 11 #[.slice A 214 c] w fun e w' => e = .returned (.tuple #[.agg (if ok1 && ok2 then blkV a f hi lo (.slice (cutA A c 86) n (c - 86)) fl else blkV 0 (fun _ => 0) 0 0 (.slice none 0 0) false), .bool (ok1 && ok2)]) ∧ Below w.heap.size w w' := by
  have hb0 : Below w.heap.size w (w.alloc (.cells (blkV 0 (fun _ => 0) 0 0 (.slice none 0 0) false) 29)) := (Below.refl _ w).alloc (Nat.le_refl _) _
  have FW := Lib.hid (hw.below hb0 (Nat.le_refl _))
  have hlow : xs ≠ [] → ∀ a, A = some a → a.block < w.heap.size := fun hn a e => by
    obtain ⟨g', o', e', hl, -⟩ := hw.block (i := 0) (by omega)
    rw [e] at e'; cases e'; exact hl
  have q0 : (w.alloc (.cells (blkV 0 (fun _ => 0) 0 0 (.slice none 0 0) false) 29)).cell? ⟨b0, o + 5, none⟩ = some (.int .u8 (x5 : Nat)) := (hb0.cell (p := ⟨b0, o + 5, none⟩) (hlow (fun e => by rw [e] at hlen; simp at hlen) ⟨b0, o, none⟩ hA)).trans h5
  have FS : Hid (RB w (blkV a (fun _ => 0) 0 0 (.slice none 0 0) fl) A xs ((w.alloc (.cells (blkV 0 (fun _ => 0) 0 0 (.slice none 0 0) false) 29)).alloc (.cells (blkV a (fun _ => 0) 0 0 (.slice none 0 0) fl) 29))) :=
    ⟨hb0.alloc (by simp) _, (Hold.new w _ _ 13 rfl).past _, Hold.new1 w _ _ _ 13 rfl, FW.out.below ((Below.refl _ _).alloc (Nat.le_refl _) _) (Nat.le_refl _), hlow⟩
  have s1 := run_storeBU (Hold.new1 w (.cells (blkV 0 (fun _ => 0) 0 0 (.slice none 0 0) false) 29) (blkV 0 (fun _ => 0) 0 0 (.slice none 0 0) false) 29 13 rfl).ok (c' := blkV a (fun _ => 0) 0 0 (.slice none 0 0) fl) rfl blkV_ones
  have c1 : ∀ W, (cutAt 22 (.slice A 214 c) (some (.int .i64 6)) (some (.int .i64 22)) none).run Tryz.prog W = .ok (.slice (cutA A c 6) 16 (c - 6)) W := fun W => cut2_run A 214 c 6 22 (by omega) (by omega) W
  have c2 : ∀ W, (cutAt 22 (.slice A 214 c) (some (.int .i64 22)) (some (.int .i64 86)) none).run Tryz.prog W = .ok (.slice (cutA A c 22) 64 (c - 22)) W := fun W => cut2_run A 214 c 22 86 (by omega) (by omega) W
  have c3 : ∀ W, (cutAt 22 (.slice A 214 c) (some (.int .i64 86)) (some (.int .i64 ((86 + n : Nat) : Int))) none).run Tryz.prog W = .ok (.slice (cutA A c 86) (86 + n - 86) (c - 86)) W := fun W => cut2_run A 214 c 86 (86 + n) (by omega) (by omega) W
  rw [show 86 + n - 86 = n by omega] at c3
  rw [show ((86 + n : Nat) : Int) = 86 + (n : Int) by omega] at c3
  have hwr : IntKind.i64.wrap (86 + (n : Int)) = 86 + (n : Int) := by rw [IntKind.wrap_i64]; omega
  replace CA := Lib.hid CA
  replace CZ := Lib.hid CZ
  replace CB1 := Lib.hid CB1
  replace CB2 := Lib.hid CB2
  replace CM := Lib.hid CM
  replace CR := Lib.hid CR
  clear hw h5 hb0 hlow hlen
  have HA := Lib.hid hA
  cases ok1 with
  | false =>
    clear CK CS
    subst hA
    go_enter Tryz.func11, Tryz.ntmps11
    go_wp2_with (first
      | (go_at_call 16; (with_reducible refine (CA.out _ FW.out).mono ?_); rintro e u1 ⟨rfl, rfl⟩)
      | (go_at_call 23; (with_reducible refine (CZ.out _).mono ?_); rintro e u1 ⟨rfl, rfl⟩)
      | (go_at_call 28
         (with_reducible refine (CB1.out _ FS.out.words).mono ?_)
         rintro e u1 ⟨g1, c1, rfl, hc1, hc2, hg, hb⟩
         have k1 := (FS.out.call hb)
         have hd := k1.drew
         have F1 := Lib.hid hd
         have p1 : u1.drew.cell? ⟨g1, 0, none⟩ = some (.int .u64 (hi : Nat)) := hc1
         have p2 : u1.drew.cell? ⟨g1, 1, none⟩ = some (.int .u64 (lo : Nat)) := hc2
         have p3 := run_storeC9 hd.cell hi lo
         clear hb hc1 hc2 k1 hd s1 hg))
    refine wp_region_still_tail 8 (by kernel_rfl) (by kernel_rfl) ?_
    change wpStill _ _ u1.drew (fun a' => wpList _ _ _ _ a' u1.drew) _ _
    generalize u1.drew = W3 at *
    simp only [List.take_succ_cons, List.take_zero, List.drop_succ_cons, List.drop_zero]
    repeat still_step
    refine wpStill_nil ?_
    go_wp2_with (first
      | (go_at_call 28
         (with_reducible refine (CB2.out _ (F1.out.set (blkV a (fun _ => 0) hi lo (.slice none 0 0) fl) rfl).words).mono ?_)
         rintro e u2 ⟨g, c2, rfl, hD, hg, hb⟩
         have k1 := ((F1.out.set (blkV a (fun _ => 0) hi lo (.slice none 0 0) fl) rfl).call hb)
         have hgl : w.heap.size + 1 < g := Nat.lt_of_lt_of_le ((F1.out.set (blkV a (fun _ => 0) hi lo (.slice none 0 0) fl) rfl).cell.lt) hg
         have HG := Lib.hid hgl
         have F0 : Hid (RB w (blkV a (vUp f 0) hi lo (.slice none 0 0) fl) (some ⟨b0, o, none⟩) xs u2 ∧ ∀ i, i < 8 → u2.cell? ⟨g, i, none⟩ = some (.int .u64 (f i : Nat))) := by
           rw [blkV_congr (h := vUp f 0) (g := fun _ => 0) (fun i hi => by unfold vUp; rw [if_neg (by omega)])]
           exact ⟨k1, hD⟩
         clear hb hD hg hgl k1 p1 p2 p3))
    go_loopg [54] 8 (fun n i wr => ∃ k : Nat, k + n = 8 ∧ i = .int .i64 (k : Nat) ∧ Hid (RB w (blkV a (vUp f k) hi lo (.slice none 0 0) fl) (some ⟨b0, o, none⟩) xs wr ∧ ∀ i, i < 8 → wr.cell? ⟨g, i, none⟩ = some (.int .u64 (f i : Nat))))
    case atStart => exact ⟨0, by omega, rfl, F0⟩
    case round =>
      clear F0
      obtain ⟨k, hk, rfl, HRR⟩ := hrel
      by_cases h8 : k < 8
      · obtain ⟨n', rfl⟩ : ∃ n', gk = n' + 1 := ⟨gk - 1, by omega⟩
        obtain ⟨hR, hD⟩ := HRR.out
        clear HRR
        have q1 := hD k h8
        have q2 := hR.cell.frozen (1 + k)
        have q3 := hR.cell.setCell (1 + k)
        have q4 : wr.cell? ⟨w.heap.size + 1, 1 + k, none⟩ = some (.int .u64 (vUp f k k : Nat)) := hR.cell.cell (blk_h h8)
        have i1 : (k : Int) < 8 := by omega
        have HS := Lib.hid (blkV_set a f hi lo (.slice none 0 0) fl k h8 (f k : Nat) rfl)
        have F1 : Hid (∀ v, RB w ((blkV a (vUp f k) hi lo (.slice none 0 0) fl).setIfInBounds (1 + k) v) (some ⟨b0, o, none⟩) xs (wr.setRow (w.heap.size + 1) ((blkV a (vUp f k) hi lo (.slice none 0 0) fl).setIfInBounds (1 + k) v)) ∧ ∀ i, i < 8 → (wr.setRow (w.heap.size + 1) ((blkV a (vUp f k) hi lo (.slice none 0 0) fl).setIfInBounds (1 + k) v)).cell? ⟨g, i, none⟩ = some (.int .u64 (f i : Nat))) := fun v =>
          ⟨hR.set _ (by rw [Array.size_setIfInBounds]; rfl), fun i hi => (cell_setRow_other wr (w.heap.size + 1) _ ⟨g, i, none⟩ (show g ≠ w.heap.size + 1 by have := HG.out; omega)).trans (hD i hi)⟩
        clear hR hD
        generalize vUp f k k = y0 at *
        generalize f k = y at *
        go_wp2
        go_roundg n'
        case measure => omega
        case rel => exact ⟨k + 1, by omega, by go_num, by have := F1.out (.int .u64 (y : Nat)); rw [HS.out] at this ⊢; exact this⟩
      · obtain rfl : k = 8 := by omega
        obtain ⟨hR, -⟩ := HRR.out
        clear HRR
        rw [blkV_congr (g := f) (fun i hi => by unfold vUp; rw [if_pos hi])] at hR
        have q5 := blk_count hR.cell
        have F2 := Lib.hid hR
        clear hR
        go_wp2_with (first
          | (go_at_call 29
             (with_reducible refine (CM.out _).mono ?_)
             rintro e u4 ⟨rfl, hb⟩
             have k1 := F2.out.call hb
             have q6 := k1.cell.setCell 11 (.slice (cutA (some ⟨b0, o, none⟩) c 86) n (c - 86))
             rw [blkV_rest] at q6
             have q7 := k1.cell.frozen 11
             have q8 : u4.cell? ⟨w.heap.size + 1, 11, none⟩ = some (.slice none 0 0) := k1.cell.cell rfl
             have k2 := k1.set (blkV a f hi lo (.slice (cutA (some ⟨b0, o, none⟩) c 86) n (c - 86)) fl) rfl
             have q9 := k2.cell.load (T := 29) Tryz.underlying29 rfl (by kernel_rfl)
             have F3 := Lib.hid k2
             clear k1 k2 hb q5)
          | (go_at_call 21
             (with_reducible refine (CR.out _).mono ?_)
             rintro e u5 ⟨rfl, hb⟩
             have k1 := F3.out.call hb
             have F4 := Lib.hid k1
             have s5 := run_storeBU k1.res.ok (c' := blkV 0 (fun _ => 0) 0 0 (.slice none 0 0) false) rfl blkV_ones
             clear hb k1 q6 q7 q8 q9))
        refine row_tmp_ret (P := Tryz.prog) (n := w.heap.size) (k := 13) (c := blkV 0 (fun _ => 0) 0 0 (.slice none 0 0) false) rfl rfl rfl (F4.out.res.set _ rfl) Tryz.underlying29 rfl (by kernel_rfl) rfl ⟨rfl, below_setRow F4.out.below (Nat.le_refl _) _⟩
  | true =>
    replace CK := Lib.hid (CK rfl)
    replace CS := Lib.hid (CS rfl)
    subst hA
    cases ok2 with
    | false =>
      go_enter Tryz.func11, Tryz.ntmps11
      go_wp2_with (first
        | (go_at_call 16; (with_reducible refine (CA.out _ FW.out).mono ?_); rintro e u1 ⟨rfl, rfl⟩)
        | (go_at_call 23; (with_reducible refine (CZ.out _).mono ?_); rintro e u1 ⟨rfl, rfl⟩)
        | (go_at_call 28
           (with_reducible refine (CB1.out _ FS.out.words).mono ?_)
           rintro e u1 ⟨g1, c1, rfl, hc1, hc2, hg, hb⟩
           have k1 := (FS.out.call hb)
           have hd := k1.drew
           have F1 := Lib.hid hd
           have p1 : u1.drew.cell? ⟨g1, 0, none⟩ = some (.int .u64 (hi : Nat)) := hc1
           have p2 : u1.drew.cell? ⟨g1, 1, none⟩ = some (.int .u64 (lo : Nat)) := hc2
           have p3 := run_storeC9 hd.cell hi lo
           clear hb hc1 hc2 k1 hd s1 hg))
      refine wp_region_still_tail 8 (by kernel_rfl) (by kernel_rfl) ?_
      change wpStill _ _ u1.drew (fun a' => wpList _ _ _ _ a' u1.drew) _ _
      generalize u1.drew = W3 at *
      simp only [List.take_succ_cons, List.take_zero, List.drop_succ_cons, List.drop_zero]
      repeat still_step
      refine wpStill_nil ?_
      go_wp2_with (first
        | (go_at_call 28
           (with_reducible refine (CB2.out _ (F1.out.set (blkV a (fun _ => 0) hi lo (.slice none 0 0) fl) rfl).words).mono ?_)
           rintro e u2 ⟨g, c2, rfl, hD, hg, hb⟩
           have k1 := ((F1.out.set (blkV a (fun _ => 0) hi lo (.slice none 0 0) fl) rfl).call hb)
           have hgl : w.heap.size + 1 < g := Nat.lt_of_lt_of_le ((F1.out.set (blkV a (fun _ => 0) hi lo (.slice none 0 0) fl) rfl).cell.lt) hg
           have HG := Lib.hid hgl
           have F0 : Hid (RB w (blkV a (vUp f 0) hi lo (.slice none 0 0) fl) (some ⟨b0, o, none⟩) xs u2 ∧ ∀ i, i < 8 → u2.cell? ⟨g, i, none⟩ = some (.int .u64 (f i : Nat))) := by
             rw [blkV_congr (h := vUp f 0) (g := fun _ => 0) (fun i hi => by unfold vUp; rw [if_neg (by omega)])]
             exact ⟨k1, hD⟩
           clear hb hD hg hgl k1 p1 p2 p3))
      go_loopg [54] 8 (fun n i wr => ∃ k : Nat, k + n = 8 ∧ i = .int .i64 (k : Nat) ∧ Hid (RB w (blkV a (vUp f k) hi lo (.slice none 0 0) fl) (some ⟨b0, o, none⟩) xs wr ∧ ∀ i, i < 8 → wr.cell? ⟨g, i, none⟩ = some (.int .u64 (f i : Nat))))
      case atStart => exact ⟨0, by omega, rfl, F0⟩
      case round =>
        clear F0
        obtain ⟨k, hk, rfl, HRR⟩ := hrel
        by_cases h8 : k < 8
        · obtain ⟨n', rfl⟩ : ∃ n', gk = n' + 1 := ⟨gk - 1, by omega⟩
          obtain ⟨hR, hD⟩ := HRR.out
          clear HRR
          have q1 := hD k h8
          have q2 := hR.cell.frozen (1 + k)
          have q3 := hR.cell.setCell (1 + k)
          have q4 : wr.cell? ⟨w.heap.size + 1, 1 + k, none⟩ = some (.int .u64 (vUp f k k : Nat)) := hR.cell.cell (blk_h h8)
          have i1 : (k : Int) < 8 := by omega
          have HS := Lib.hid (blkV_set a f hi lo (.slice none 0 0) fl k h8 (f k : Nat) rfl)
          have F1 : Hid (∀ v, RB w ((blkV a (vUp f k) hi lo (.slice none 0 0) fl).setIfInBounds (1 + k) v) (some ⟨b0, o, none⟩) xs (wr.setRow (w.heap.size + 1) ((blkV a (vUp f k) hi lo (.slice none 0 0) fl).setIfInBounds (1 + k) v)) ∧ ∀ i, i < 8 → (wr.setRow (w.heap.size + 1) ((blkV a (vUp f k) hi lo (.slice none 0 0) fl).setIfInBounds (1 + k) v)).cell? ⟨g, i, none⟩ = some (.int .u64 (f i : Nat))) := fun v =>
            ⟨hR.set _ (by rw [Array.size_setIfInBounds]; rfl), fun i hi => (cell_setRow_other wr (w.heap.size + 1) _ ⟨g, i, none⟩ (show g ≠ w.heap.size + 1 by have := HG.out; omega)).trans (hD i hi)⟩
          clear hR hD
          generalize vUp f k k = y0 at *
          generalize f k = y at *
          go_wp2
          go_roundg n'
          case measure => omega
          case rel => exact ⟨k + 1, by omega, by go_num, by have := F1.out (.int .u64 (y : Nat)); rw [HS.out] at this ⊢; exact this⟩
        · obtain rfl : k = 8 := by omega
          obtain ⟨hR, -⟩ := HRR.out
          clear HRR
          rw [blkV_congr (g := f) (fun i hi => by unfold vUp; rw [if_pos hi])] at hR
          have q5 := blk_count hR.cell
          have F2 := Lib.hid hR
          clear hR
          go_wp2_with (first
            | (go_at_call 29
               (with_reducible refine (CM.out _).mono ?_)
               rintro e u4 ⟨rfl, hb⟩
               have k1 := F2.out.call hb
               have q6 := k1.cell.setCell 11 (.slice (cutA (some ⟨b0, o, none⟩) c 86) n (c - 86))
               rw [blkV_rest] at q6
               have q7 := k1.cell.frozen 11
               have q8 : u4.cell? ⟨w.heap.size + 1, 11, none⟩ = some (.slice none 0 0) := k1.cell.cell rfl
               have k2 := k1.set (blkV a f hi lo (.slice (cutA (some ⟨b0, o, none⟩) c 86) n (c - 86)) fl) rfl
               have q9 := k2.cell.load (T := 29) Tryz.underlying29 rfl (by kernel_rfl)
               have F3 := Lib.hid k2
               clear k1 k2 hb q5)
            | (go_at_call 21
               (with_reducible refine (CR.out _).mono ?_)
               rintro e u5 ⟨rfl, hb⟩
               have k1 := F3.out.call hb
               have F4 := Lib.hid k1
               have q10 := k1.cell.load (T := 29) Tryz.underlying29 rfl (by kernel_rfl)
               clear hb k1 q6 q7 q8 q9)
            | (go_at_call 30
               (with_reducible refine (CK.out _ F4.out.words).mono ?_)
               rintro e u6 ⟨A9, c9, rfl, hw9, hb⟩
               have F5 := Lib.hid (F4.out.call hb)
               have W9 := Lib.hid hw9
               clear hb hw9 q10)
            | (go_at_call 19
               (with_reducible refine (CS.out _ _ _ W9.out F5.out.words).mono ?_)
               rintro e u7 ⟨rfl, hb⟩
               have k1 := F5.out.call hb
               have F6 := Lib.hid k1
               have q11 := k1.cell.load (T := 29) Tryz.underlying29 rfl (by kernel_rfl)
               have s5 := run_storeBU k1.res.ok (c' := (blkV 0 (fun _ => 0) 0 0 (.slice none 0 0) false)) rfl blkV_ones
               clear hb k1))
          refine row_tmp_ret (P := Tryz.prog) (n := w.heap.size) (k := 13) (c := (blkV 0 (fun _ => 0) 0 0 (.slice none 0 0) false)) rfl rfl rfl (F6.out.res.set _ rfl) Tryz.underlying29 rfl (by kernel_rfl) rfl ⟨rfl, below_setRow F6.out.below (Nat.le_refl _) _⟩
    | true =>
      go_enter Tryz.func11, Tryz.ntmps11
      go_wp2_with (first
        | (go_at_call 16; (with_reducible refine (CA.out _ FW.out).mono ?_); rintro e u1 ⟨rfl, rfl⟩)
        | (go_at_call 23; (with_reducible refine (CZ.out _).mono ?_); rintro e u1 ⟨rfl, rfl⟩)
        | (go_at_call 28
           (with_reducible refine (CB1.out _ FS.out.words).mono ?_)
           rintro e u1 ⟨g1, c1, rfl, hc1, hc2, hg, hb⟩
           have k1 := (FS.out.call hb)
           have hd := k1.drew
           have F1 := Lib.hid hd
           have p1 : u1.drew.cell? ⟨g1, 0, none⟩ = some (.int .u64 (hi : Nat)) := hc1
           have p2 : u1.drew.cell? ⟨g1, 1, none⟩ = some (.int .u64 (lo : Nat)) := hc2
           have p3 := run_storeC9 hd.cell hi lo
           clear hb hc1 hc2 k1 hd s1 hg))
      refine wp_region_still_tail 8 (by kernel_rfl) (by kernel_rfl) ?_
      change wpStill _ _ u1.drew (fun a' => wpList _ _ _ _ a' u1.drew) _ _
      generalize u1.drew = W3 at *
      simp only [List.take_succ_cons, List.take_zero, List.drop_succ_cons, List.drop_zero]
      repeat still_step
      refine wpStill_nil ?_
      go_wp2_with (first
        | (go_at_call 28
           (with_reducible refine (CB2.out _ (F1.out.set (blkV a (fun _ => 0) hi lo (.slice none 0 0) fl) rfl).words).mono ?_)
           rintro e u2 ⟨g, c2, rfl, hD, hg, hb⟩
           have k1 := ((F1.out.set (blkV a (fun _ => 0) hi lo (.slice none 0 0) fl) rfl).call hb)
           have hgl : w.heap.size + 1 < g := Nat.lt_of_lt_of_le ((F1.out.set (blkV a (fun _ => 0) hi lo (.slice none 0 0) fl) rfl).cell.lt) hg
           have HG := Lib.hid hgl
           have F0 : Hid (RB w (blkV a (vUp f 0) hi lo (.slice none 0 0) fl) (some ⟨b0, o, none⟩) xs u2 ∧ ∀ i, i < 8 → u2.cell? ⟨g, i, none⟩ = some (.int .u64 (f i : Nat))) := by
             rw [blkV_congr (h := vUp f 0) (g := fun _ => 0) (fun i hi => by unfold vUp; rw [if_neg (by omega)])]
             exact ⟨k1, hD⟩
           clear hb hD hg hgl k1 p1 p2 p3))
      go_loopg [54] 8 (fun n i wr => ∃ k : Nat, k + n = 8 ∧ i = .int .i64 (k : Nat) ∧ Hid (RB w (blkV a (vUp f k) hi lo (.slice none 0 0) fl) (some ⟨b0, o, none⟩) xs wr ∧ ∀ i, i < 8 → wr.cell? ⟨g, i, none⟩ = some (.int .u64 (f i : Nat))))
      case atStart => exact ⟨0, by omega, rfl, F0⟩
      case round =>
        clear F0
        obtain ⟨k, hk, rfl, HRR⟩ := hrel
        by_cases h8 : k < 8
        · obtain ⟨n', rfl⟩ : ∃ n', gk = n' + 1 := ⟨gk - 1, by omega⟩
          obtain ⟨hR, hD⟩ := HRR.out
          clear HRR
          have q1 := hD k h8
          have q2 := hR.cell.frozen (1 + k)
          have q3 := hR.cell.setCell (1 + k)
          have q4 : wr.cell? ⟨w.heap.size + 1, 1 + k, none⟩ = some (.int .u64 (vUp f k k : Nat)) := hR.cell.cell (blk_h h8)
          have i1 : (k : Int) < 8 := by omega
          have HS := Lib.hid (blkV_set a f hi lo (.slice none 0 0) fl k h8 (f k : Nat) rfl)
          have F1 : Hid (∀ v, RB w ((blkV a (vUp f k) hi lo (.slice none 0 0) fl).setIfInBounds (1 + k) v) (some ⟨b0, o, none⟩) xs (wr.setRow (w.heap.size + 1) ((blkV a (vUp f k) hi lo (.slice none 0 0) fl).setIfInBounds (1 + k) v)) ∧ ∀ i, i < 8 → (wr.setRow (w.heap.size + 1) ((blkV a (vUp f k) hi lo (.slice none 0 0) fl).setIfInBounds (1 + k) v)).cell? ⟨g, i, none⟩ = some (.int .u64 (f i : Nat))) := fun v =>
            ⟨hR.set _ (by rw [Array.size_setIfInBounds]; rfl), fun i hi => (cell_setRow_other wr (w.heap.size + 1) _ ⟨g, i, none⟩ (show g ≠ w.heap.size + 1 by have := HG.out; omega)).trans (hD i hi)⟩
          clear hR hD
          generalize vUp f k k = y0 at *
          generalize f k = y at *
          go_wp2
          go_roundg n'
          case measure => omega
          case rel => exact ⟨k + 1, by omega, by go_num, by have := F1.out (.int .u64 (y : Nat)); rw [HS.out] at this ⊢; exact this⟩
        · obtain rfl : k = 8 := by omega
          obtain ⟨hR, -⟩ := HRR.out
          clear HRR
          rw [blkV_congr (g := f) (fun i hi => by unfold vUp; rw [if_pos hi])] at hR
          have q5 := blk_count hR.cell
          have F2 := Lib.hid hR
          clear hR
          go_wp2_with (first
            | (go_at_call 29
               (with_reducible refine (CM.out _).mono ?_)
               rintro e u4 ⟨rfl, hb⟩
               have k1 := F2.out.call hb
               have q6 := k1.cell.setCell 11 (.slice (cutA (some ⟨b0, o, none⟩) c 86) n (c - 86))
               rw [blkV_rest] at q6
               have q7 := k1.cell.frozen 11
               have q8 : u4.cell? ⟨w.heap.size + 1, 11, none⟩ = some (.slice none 0 0) := k1.cell.cell rfl
               have k2 := k1.set (blkV a f hi lo (.slice (cutA (some ⟨b0, o, none⟩) c 86) n (c - 86)) fl) rfl
               have q9 := k2.cell.load (T := 29) Tryz.underlying29 rfl (by kernel_rfl)
               have F3 := Lib.hid k2
               clear k1 k2 hb q5)
            | (go_at_call 21
               (with_reducible refine (CR.out _).mono ?_)
               rintro e u5 ⟨rfl, hb⟩
               have k1 := F3.out.call hb
               have F4 := Lib.hid k1
               have q10 := k1.cell.load (T := 29) Tryz.underlying29 rfl (by kernel_rfl)
               clear hb k1 q6 q7 q8 q9)
            | (go_at_call 30
               (with_reducible refine (CK.out _ F4.out.words).mono ?_)
               rintro e u6 ⟨A9, c9, rfl, hw9, hb⟩
               have F5 := Lib.hid (F4.out.call hb)
               have W9 := Lib.hid hw9
               clear hb hw9 q10)
            | (go_at_call 19
               (with_reducible refine (CS.out _ _ _ W9.out F5.out.words).mono ?_)
               rintro e u7 ⟨rfl, hb⟩
               have k1 := F5.out.call hb
               have F6 := Lib.hid k1
               have q11 := k1.cell.load (T := 29) Tryz.underlying29 rfl (by kernel_rfl)
               have s5 := run_storeBU k1.res.ok (c' := (blkV a f hi lo (.slice (cutA (some ⟨b0, o, none⟩) c 86) n (c - 86)) fl)) rfl blkV_ones
               clear hb k1))
          refine row_tmp_ret (P := Tryz.prog) (n := w.heap.size) (k := 13) (c := (blkV a f hi lo (.slice (cutA (some ⟨b0, o, none⟩) c 86) n (c - 86)) fl)) rfl rfl rfl (F6.out.res.set _ rfl) Tryz.underlying29 rfl (by kernel_rfl) rfl ⟨rfl, below_setRow F6.out.below (Nat.le_refl _) _⟩
end
end Go.Proofs.YtflgnhplbblokaaGreatDoor.Sn
end

section
namespace Go.Proofs.YtflgnhplbblokaaGreatDoor.Sn
open Go.RowKit Rw Cd Al Ln L64 Mk
set_option linter.unusedVariables false
set_option linter.unusedSimpArgs false
theorem GB.mk0 {xs : List Nat} {B : Option Addr} {d : Nat} {W : World} (h : isB xs = true) (hw : Words .u8 W B (pR xs)) : GB 0 xs (blkV (algU xs) (pH (mB (algU xs)) xs) (pHi xs) (pLo xs) (.slice B (pR xs).length d) (pFl xs)) W := GB.told h hw (fun _ _ _ => Nat.zero_le _)
section
attribute [local go_sem ↓] loadB storeBU zeroBU bsBU
attribute [local go_sem] bsBU0
set_option maxRecDepth 100000 in
set_option maxHeartbeats 2000000 in
theorem refBlock_small (a sz n c : Nat) (A : Option Addr) (w : World) (hz : sz = 0 ∨ (sz = 64 ∧ n ≠ 118) ∨ (sz = 128 ∧ n ≠ 214))
    (CA : ∀ W, Below w.heap.size w W → Calls Tryz.prog 16 #[.slice A n c] W fun e w' => e = .returned (.int .i64 (a : Nat)) ∧ W = w')
    (CZ : ∀ W, Calls Tryz.prog 23 #[.int .i64 (a : Nat)] W fun e w' => e = .returned (.int .i64 (sz : Nat)) ∧ W = w') :
    Calls Tryz.prog 11 #[.slice A n c] w fun e w' => e = .returned (.tuple #[.agg zB, .bool false]) ∧ Below w.heap.size w w' := by
  have hb0 : Below w.heap.size w (w.alloc (.cells (blkV 0 (fun _ => 0) 0 0 (.slice none 0 0) false) 29)) := (Below.refl _ w).alloc (Nat.le_refl _) _
  have H0 := Hold.new w (blkV 0 (fun _ => 0) 0 0 (.slice none 0 0) false) 29 13 rfl
  have s1 := run_storeBU H0.ok (c' := blkV 0 (fun _ => 0) 0 0 (.slice none 0 0) false) rfl blkV_ones
  have HB := Lib.hid hb0
  have HH := Lib.hid H0
  replace CA := Lib.hid CA
  replace CZ := Lib.hid CZ
  have HZ : Hid (zB = blkV 0 (fun _ => 0) 0 0 (.slice none 0 0) false) := rfl
  rw [HZ.out]
  clear hb0 H0
  rcases hz with rfl | ⟨rfl, hn⟩ | ⟨rfl, hn⟩
  · go_enter Tryz.func11, Tryz.ntmps11
    go_wp2_with (first
      | (go_at_call 16; (with_reducible refine (CA.out _ HB.out).mono ?_); rintro e u1 ⟨rfl, rfl⟩)
      | (go_at_call 23; (with_reducible refine (CZ.out _).mono ?_); rintro e u1 ⟨rfl, rfl⟩))
    refine row_tmp_ret (P := Tryz.prog) (n := w.heap.size) (k := 13) (c := blkV 0 (fun _ => 0) 0 0 (.slice none 0 0) false) rfl rfl rfl HH.out Tryz.underlying29 rfl (by kernel_rfl) rfl ⟨rfl, HB.out⟩
  · have hn1 : ((n : Int) != 118) = true := by rw [bne_iff_ne]; omega
    clear hn
    go_enter Tryz.func11, Tryz.ntmps11
    go_wp2_with (first
      | (go_at_call 16; (with_reducible refine (CA.out _ HB.out).mono ?_); rintro e u1 ⟨rfl, rfl⟩)
      | (go_at_call 23; (with_reducible refine (CZ.out _).mono ?_); rintro e u1 ⟨rfl, rfl⟩))
    refine row_tmp_ret (P := Tryz.prog) (n := w.heap.size) (k := 13) (c := blkV 0 (fun _ => 0) 0 0 (.slice none 0 0) false) rfl rfl rfl HH.out Tryz.underlying29 rfl (by kernel_rfl) rfl ⟨rfl, HB.out⟩
  · have hn1 : ((n : Int) != 214) = true := by rw [bne_iff_ne]; omega
    clear hn
    go_enter Tryz.func11, Tryz.ntmps11
    go_wp2_with (first
      | (go_at_call 16; (with_reducible refine (CA.out _ HB.out).mono ?_); rintro e u1 ⟨rfl, rfl⟩)
      | (go_at_call 23; (with_reducible refine (CZ.out _).mono ?_); rintro e u1 ⟨rfl, rfl⟩))
    refine row_tmp_ret (P := Tryz.prog) (n := w.heap.size) (k := 13) (c := blkV 0 (fun _ => 0) 0 0 (.slice none 0 0) false) rfl rfl rfl HH.out Tryz.underlying29 rfl (by kernel_rfl) rfl ⟨rfl, HB.out⟩
end
theorem refBlock_big (A : Option Addr) (c m half off : Nat) (xs : List Nat) (hx : AllLt 256 xs) (hlc : xs.length ≤ c) (hcm : c ≤ maxLen) (l N k : Nat) (hm0 : 0 < m) (hm8 : m ≤ 8) (hhalf : half = k * m) (hoff : off + half ≤ xs.length) (hxl : xs.length ≤ 3000) (W : World) (hw : Words .u8 W A xs) (f : Nat → Nat) (hf : ∀ i, i < k → f i = (wordsN m be ((xs.drop off).take half)).getD i 0) (hk : 0 < k) :
    Calls Tryz.prog 28 #[.slice (cutA A c off) half (c - off), .int .i64 (m : Nat)] W fun e w' => ∃ g1 c1, e = .returned (.slice (some ⟨g1, 0, none⟩) k c1) ∧ (∀ i, i < k → w'.cell? ⟨g1, i, none⟩ = some (.int .u64 (f i : Nat))) ∧ W.heap.size ≤ g1 ∧ Below W.heap.size W w' := by
  have hl2 : ((xs.drop off).take half).length = half := by rw [List.length_take, List.length_drop]; omega
  have hdm : half / m = k := by rw [hhalf]; exact Nat.mul_div_cancel _ hm0
  have hk3 : k ≤ 3000 := Nat.le_trans (Nat.le_of_eq hdm.symm) (Nat.le_trans (Nat.div_le_self _ _) (by omega))
  have := refBig64_any (cutA A c off) (c - off) ((xs.drop off).take half) ((hx.drop _).take _) (by omega) m hm0 hm8 (by rw [hl2, hdm]; omega) W (words_takeN (cutA_words hw hlc) half)
  rw [hl2] at this
  refine this.mono fun e w' q => ?_
  obtain ⟨A1, c1, rfl, q1, q2, q3⟩ := q
  have hLl : (wordsN m be ((xs.drop off).take half)).length = k := by rw [wordsN_length, hl2, hdm]
  obtain ⟨g, rfl, hg⟩ := Ln.row_addr q1 (by omega)
  refine ⟨g, c1, by rw [hLl], fun i hi => ?_, hg, q3⟩
  obtain ⟨g', o', e', hc⟩ := q2 i (by omega)
  cases e'
  rw [Nat.zero_add] at hc
  rw [hc, hf i hi]
theorem refBlock_any (A : Option Addr) (c : Nat) (xs : List Nat) (hx : AllLt 256 xs) (hlc : xs.length ≤ c) (hcm : c ≤ maxLen) (w : World) (hw : Words .u8 w A xs) :
    Calls Tryz.prog 11 #[.slice A xs.length c] w fun e w' => ∃ u, e = .returned (.tuple #[.agg u, .bool (isB xs)]) ∧ GB 0 xs u w' ∧ Below w.heap.size w w' := by
  have CA0 := fun W (h : Words .u8 W A xs) => refAlg_any A c xs hx W h
  have CZ0 := fun W => refBlock11_any (algU xs : Int) W
  by_cases hsm : sz11 (algU xs : Int) = 0 ∨ (sz11 (algU xs : Int) = 64 ∧ xs.length ≠ 118) ∨ (sz11 (algU xs : Int) = 128 ∧ xs.length ≠ 214)
  · have hB : isB xs = false := by
      cases h : isB xs
      · rfl
      · have S := isB_spec h
        have := S.len
        have := S.m
        have := S.sz
        omega
    rw [hB]
    exact (refBlock_small (algU xs) (sz11 (algU xs : Int)) xs.length c A w hsm (fun W hb => CA0 W (hw.below hb (Nat.le_refl _))) CZ0).mono fun e w' k => by
      obtain ⟨rfl, k2⟩ := k
      exact ⟨zB, rfl, GB.nothing hB w', k2⟩
  · have hsz : (sz11 (algU xs : Int) = 64 ∧ xs.length = 118) ∨ (sz11 (algU xs : Int) = 128 ∧ xs.length = 214) := by
      rcases sz11_cases (algU xs : Int) with ⟨e, -⟩ | ⟨e, -⟩ | ⟨e, -⟩ <;> omega
    have hbk : bkN (idx (algU xs)) = sz11 (algU xs : Int) := sz11_bk (by omega)
    have h16 : 1 ≤ algU xs ∧ algU xs ≤ 6 := by
      rcases sz11_cases (algU xs : Int) with ⟨-, e⟩ | ⟨-, e⟩ | ⟨e, -⟩ <;> omega
    have hm : mB (algU xs) = sz11 (algU xs : Int) / 16 := by
      unfold mB; rw [hbk]; rcases hsz with ⟨e, -⟩ | ⟨e, -⟩ <;> rw [e] <;> rfl
    have hpl : pL xs < sz11 (algU xs : Int) := by
      unfold pL modC
      rw [hbk]
      rw [if_pos (by omega)]
      have := Int.emod_lt_of_pos ((numC (pHi xs) (pLo xs) : Nat) : Int) (show (0 : Int) < ((sz11 (algU xs : Int) : Nat) : Int) by omega)
      have := Int.emod_nonneg ((numC (pHi xs) (pLo xs) : Nat) : Int) (show ((sz11 (algU xs : Int) : Nat) : Int) ≠ 0 by omega)
      omega
    have hrl : (pR xs).length = pL xs := by
      unfold pR
      rw [List.length_take, List.length_drop, hm]
      omega
    obtain ⟨b0, o, hA, -, -⟩ := hw.block (i := 0) (by omega)
    have h5 : w.cell? ⟨b0, o + 5, none⟩ = some (.int .u8 (xs.getD 5 0 : Nat)) := by
      obtain ⟨b', o', e', hc⟩ := hw 5 (by omega)
      rw [hA] at e'; cases e'; exact hc
    have hY : ((xs.drop 6).take 16).length = 16 := by rw [List.length_take, List.length_drop]; omega
    have hb8 : wordsN 8 be ((xs.drop 6).take 16) = [pHi xs, pLo xs] := by
      have := big64_two hY
      unfold big64 at this
      rw [this]
      unfold pHi pLo
      rw [List.take_take, List.drop_take, List.drop_drop]
      rfl
    have CB1 : ∀ W, Words .u8 W A xs → Calls Tryz.prog 28 #[.slice (cutA A c 6) 16 (c - 6), .int .i64 8] W fun e w' => ∃ g1 c1, e = .returned (.slice (some ⟨g1, 0, none⟩) 2 c1) ∧ w'.cell? ⟨g1, 0, none⟩ = some (.int .u64 (pHi xs : Nat)) ∧ w'.cell? ⟨g1, 1, none⟩ = some (.int .u64 (pLo xs : Nat)) ∧ W.heap.size ≤ g1 ∧ Below W.heap.size W w' := fun W hW =>
      (refBlock_big A c 8 16 6 xs hx hlc hcm 0 0 2 (by omega) (by omega) rfl (by omega) (by omega) W hW (fun i => [pHi xs, pLo xs].getD i 0) (fun i _ => by rw [hb8]) (by omega)).mono fun e w' q => by
        obtain ⟨g1, c1, rfl, q1, q2, q3⟩ := q
        exact ⟨g1, c1, rfl, q1 0 (by omega), q1 1 (by omega), q2, q3⟩
    have CM : ∀ W, Calls Tryz.prog 29 #[.agg #[.int .u64 (pHi xs : Nat), .int .u64 (pLo xs : Nat)], .int .i64 (sz11 (algU xs : Int) : Nat)] W fun e w' => e = .returned (.int .i64 (pL xs : Nat)) ∧ Below W.heap.size W w' := fun W => by
      have := refMod_any (pHi xs) (pLo xs) (pHi_lt hx) (pLo_lt hx) (sz11 (algU xs : Int) : Nat) (by omega) (by omega) W
      rw [← hbk, pL_cast, hbk] at this
      exact this
    have hh := fun i => pH_lt hx (m := mB (algU xs)) (by have := mB_or (algU xs); omega) i
    have hwR : ∀ W, Words .u8 W A xs → Words .u8 W (cutA A c (22 + 8 * mB (algU xs))) (pR xs) := fun W hW => words_takeN (cutA_words hW hlc) _
    have hRx : AllLt 256 (pR xs) := (hx.drop _).take _
    have CR : ∀ W, Calls Tryz.prog 21 #[.agg (blkV (algU xs) (pH (mB (algU xs)) xs) (pHi xs) (pLo xs) (.slice (cutA A c (22 + 8 * mB (algU xs))) (pL xs) (c - (22 + 8 * mB (algU xs)))) (pFl xs))] W fun e w' => e = .returned (.bool (right11 (algU xs) (pH (mB (algU xs)) xs) (numC (pHi xs) (pLo xs)) (pL xs))) ∧ Below W.heap.size W w' := fun W =>
      refRight11_any (algU xs : Int) (pH (mB (algU xs)) xs) (pHi xs) (pLo xs) (pHi_lt hx) (pLo_lt hx) _ (pL xs) _ (pFl xs) W
    have CK : ∀ W, Words .u8 W A xs → Calls Tryz.prog 30 #[.agg (blkV (algU xs) (pH (mB (algU xs)) xs) (pHi xs) (pLo xs) (.slice (cutA A c (22 + 8 * mB (algU xs))) (pL xs) (c - (22 + 8 * mB (algU xs)))) (pFl xs))] W fun e w' => ∃ A9 c9, e = .returned (.slice A9 (blkB (algU xs) (sz11 (algU xs)) (pH (mB (algU xs)) xs) (pHi xs) (pLo xs) (pR xs) (pFl xs)).length c9) ∧ Words .u8 w' A9 (blkB (algU xs) (sz11 (algU xs)) (pH (mB (algU xs)) xs) (pHi xs) (pLo xs) (pR xs) (pFl xs)) ∧ Below W.heap.size W w' := fun W hW => by
      have := refBlock20_any (algU xs) (pH (mB (algU xs)) xs) hh (pHi xs) (pLo xs) (pHi_lt hx) (pLo_lt hx) (cutA A c (22 + 8 * mB (algU xs))) (c - (22 + 8 * mB (algU xs))) (pR xs) (pFl xs) W (hwR W hW) h16.1 h16.2 (by omega)
      rw [hrl] at this
      exact this.mono fun e w' q => by
        obtain ⟨A9, c9, rfl, -, q2, q3⟩ := q
        exact ⟨A9, c9, rfl, q2, q3⟩
    have CS : ∀ W A9 c9, Words .u8 W A9 (blkB (algU xs) (sz11 (algU xs)) (pH (mB (algU xs)) xs) (pHi xs) (pLo xs) (pR xs) (pFl xs)) → Words .u8 W A xs → Calls Tryz.prog 19 #[.slice A9 (blkB (algU xs) (sz11 (algU xs)) (pH (mB (algU xs)) xs) (pHi xs) (pLo xs) (pR xs) (pFl xs)).length c9, .slice A xs.length c] W fun e w' => e = .returned (.bool (sameB (blkB (algU xs) (sz11 (algU xs)) (pH (mB (algU xs)) xs) (pHi xs) (pLo xs) (pR xs) (pFl xs)) xs)) ∧ Below W.heap.size W w' := fun W A9 c9 h9 hW =>
      Cd.same_any _ _ (blkB_lt _ (by omega) hRx) hx (by rw [blkB_length _ (by omega)]; omega) (by omega) W A9 c9 A c h9 hW
    have hisB : isB xs = (right11 (algU xs) (pH (mB (algU xs)) xs) (numC (pHi xs) (pLo xs)) (pL xs) && sameB (blkB (algU xs) (sz11 (algU xs)) (pH (mB (algU xs)) xs) (pHi xs) (pLo xs) (pR xs) (pFl xs)) xs) := by
      unfold isB sameB; rw [hrl]
    have fin : ∀ {e : Ending} {w' : World}, (e = .returned (.tuple #[.agg (if (right11 (algU xs) (pH (mB (algU xs)) xs) (numC (pHi xs) (pLo xs)) (pL xs) && sameB (blkB (algU xs) (sz11 (algU xs)) (pH (mB (algU xs)) xs) (pHi xs) (pLo xs) (pR xs) (pFl xs)) xs) then blkV (algU xs) (pH (mB (algU xs)) xs) (pHi xs) (pLo xs) (.slice (cutA A c (22 + 8 * mB (algU xs))) (pL xs) (c - (22 + 8 * mB (algU xs)))) (pFl xs) else blkV 0 (fun _ => 0) 0 0 (.slice none 0 0) false), .bool (right11 (algU xs) (pH (mB (algU xs)) xs) (numC (pHi xs) (pLo xs)) (pL xs) && sameB (blkB (algU xs) (sz11 (algU xs)) (pH (mB (algU xs)) xs) (pHi xs) (pLo xs) (pR xs) (pFl xs)) xs)]) ∧ Below w.heap.size w w') →
        ∃ u, e = .returned (.tuple #[.agg u, .bool (isB xs)]) ∧ GB 0 xs u w' ∧ Below w.heap.size w w' := fun {e w'} k => by
      obtain ⟨rfl, k2⟩ := k
      rw [← hisB]
      refine ⟨_, rfl, ?_, k2⟩
      cases hB : isB xs with
      | true =>
        rw [if_pos rfl, ← hrl]
        exact GB.mk0 hB (hwR w' (hw.below k2 (Nat.le_refl _)))
      | false => exact GB.nothing hB w'
    rcases hsz with ⟨hs, hl⟩ | ⟨hs, hl⟩
    · have hm4 : mB (algU xs) = 4 := by rw [hm, hs]
      have CB2 : ∀ W, Words .u8 W A xs → Calls Tryz.prog 28 #[.slice (cutA A c 22) 32 (c - 22), .int .i64 4] W fun e w' => ∃ g1 c1, e = .returned (.slice (some ⟨g1, 0, none⟩) 8 c1) ∧ (∀ i, i < 8 → w'.cell? ⟨g1, i, none⟩ = some (.int .u64 (pH 4 xs i : Nat))) ∧ W.heap.size ≤ g1 ∧ Below W.heap.size W w' := fun W hW =>
        refBlock_big A c 4 32 22 xs hx hlc hcm 0 0 8 (by omega) (by omega) rfl (by omega) (by omega) W hW (pH 4 xs) (fun i _ => rfl) (by omega)
      rw [hm4] at CR CK CS fin
      rw [hs] at CM CZ0
      rw [hl] at CA0
      simp only [hl] at CS
      have := refBlock_core64 _ _ (algU xs) (pHi xs) (pLo xs) (pL xs) (xs.getD 5 0) (pFl xs) (pH 4 xs) b0 o c A xs (pR xs) _ w hA hl (by omega) (by omega) hw h5 rfl CA0 CZ0 CB1 CB2 CM CR (fun _ => CK) (fun _ => CS)
      rw [hl]
      exact this.mono fun e w' k => fin k
    · have hm8 : mB (algU xs) = 8 := by rw [hm, hs]
      have CB2 : ∀ W, Words .u8 W A xs → Calls Tryz.prog 28 #[.slice (cutA A c 22) 64 (c - 22), .int .i64 8] W fun e w' => ∃ g1 c1, e = .returned (.slice (some ⟨g1, 0, none⟩) 8 c1) ∧ (∀ i, i < 8 → w'.cell? ⟨g1, i, none⟩ = some (.int .u64 (pH 8 xs i : Nat))) ∧ W.heap.size ≤ g1 ∧ Below W.heap.size W w' := fun W hW =>
        refBlock_big A c 8 64 22 xs hx hlc hcm 0 0 8 (by omega) (by omega) rfl (by omega) (by omega) W hW (pH 8 xs) (fun i _ => rfl) (by omega)
      rw [hm8] at CR CK CS fin
      rw [hs] at CM CZ0
      rw [hl] at CA0
      simp only [hl] at CS
      have := refBlock_core128 _ _ (algU xs) (pHi xs) (pLo xs) (pL xs) (xs.getD 5 0) (pFl xs) (pH 8 xs) b0 o c A xs (pR xs) _ w hA hl (by omega) (by omega) hw h5 rfl CA0 CZ0 CB1 CB2 CM CR (fun _ => CK) (fun _ => CS)
      rw [hl]
      exact this.mono fun e w' k => fin k
end Go.Proofs.YtflgnhplbblokaaGreatDoor.Sn
end

section
namespace Go.Proofs.YtflgnhplbblokaaGreatDoor.Sn
open Go.RowKit Rw Cd Al Ln L64 Mk
set_option linter.unusedVariables false
set_option linter.unusedSimpArgs false
structure RP (w : World) (S : Nat) (u : Array Value) (A : Option Addr) (xs : List Nat) (W : World) : Prop where
  below : Below w.heap.size w W
  res : Hold W w.heap.size 30 (spV 0 (fun _ => 0) 0 false (.slice none 0 0) (.slice none 0 0))
  cell : Hold W S 30 u
  words : Words .u8 W A xs
  low : xs ≠ [] → ∀ a, A = some a → a.block < w.heap.size
  gt : w.heap.size < S
theorem RP.call {w W W' : World} {S : Nat} {u : Array Value} {A : Option Addr} {xs : List Nat} (h : RP w S u A xs W) (hb : Below W.heap.size W W') : RP w S u A xs W' :=
  ⟨h.below.trans (hb.mono h.below.size), h.res.call hb, h.cell.call hb, h.words.below hb (Nat.le_refl _), h.low, h.gt⟩
theorem RP.set {w W : World} {S : Nat} {u : Array Value} {A : Option Addr} {xs : List Nat} (h : RP w S u A xs W) (u' : Array Value) (hu : u'.size = 30) : RP w S u' A xs (W.setRow S u') :=
  ⟨below_setRow h.below (Nat.le_of_lt h.gt) _, h.res.other _ (Nat.ne_of_lt h.gt), h.cell.set _ hu, words_keepB h.words (fun hn a e => Nat.lt_trans (h.low hn a e) h.gt) (below_setRow (Below.refl _ _) (Nat.le_refl _) _), h.low, h.gt⟩
theorem words_setRowN {k : IntKind} {W : World} {B : Option Addr} {xs : List Nat} {S : Nat} (h : Words k W B xs) (hB : xs ≠ [] → ∀ a, B = some a → a.block ≠ S) (u : Array Value) : Words k (W.setRow S u) B xs := fun i hi => by
  obtain ⟨g, o, e, hc⟩ := h i hi
  have hne : g ≠ S := hB (fun e => by rw [e] at hi; exact absurd hi (by simp)) ⟨g, o, none⟩ e
  exact ⟨g, o, e, (cell_setRow_other W S _ ⟨g, o + i, none⟩ hne).trans hc⟩
theorem RP.new {w u1 : World} {A : Option Addr} {xs : List Nat} {alg p : Int} {f : Nat → Nat} {rd : Bool} {s1 s2 : Value} (hb : Below w.heap.size w u1) (h1 : Hold u1 w.heap.size 30 (spV 0 (fun _ => 0) 0 false (.slice none 0 0) (.slice none 0 0))) (hw : Words .u8 u1 A xs) (hl : xs ≠ [] → ∀ a, A = some a → a.block < w.heap.size) :
    RP w u1.heap.size (spV alg f p rd s1 s2) A xs (u1.alloc (.cells (spV alg f p rd s1 s2) 38)) :=
  ⟨hb.alloc hb.size _, h1.past _, Hold.new u1 _ _ 30 spV_size, hw.below ((Below.refl _ _).alloc (Nat.le_refl _) _) (Nat.le_refl _), hl, h1.lt⟩
theorem RP.old {w u1 : World} {u0 : Array Value} {A : Option Addr} {xs : List Nat} {alg p : Int} {f : Nat → Nat} {rd : Bool} {s1 s2 : Value} (hb : Below w.heap.size w u1) (h1 : Hold u1 w.heap.size 30 (spV 0 (fun _ => 0) 0 false (.slice none 0 0) (.slice none 0 0))) (h2 : Hold u1 (w.heap.size + 1) 30 u0) (hw : Words .u8 u1 A xs) (hl : xs ≠ [] → ∀ a, A = some a → a.block < w.heap.size) :
    RP w (w.heap.size + 1) (spV alg f p rd s1 s2) A xs (u1.setRow (w.heap.size + 1) (spV alg f p rd s1 s2)) :=
  RP.set ⟨hb, h1, h2, hw, hl, by omega⟩ _ spV_size
theorem spV_noU8 {alg p : Int} {f : Nat → Nat} {rd : Bool} {s1 s2 : Value} (h1 : ∀ x, s1 ≠ .int .u8 x) (h2 : ∀ x, s2 ≠ .int .u8 x) (i : Nat) (x : Int) : (spV alg f p rd s1 s2)[i]? ≠ some (.int .u8 x) := fun e => by
  by_cases h30 : i < 30
  · rcases Nat.lt_or_ge i 1 with h | h
    · obtain rfl : i = 0 := by omega
      rw [spV_0] at e; cases e
    · rcases Nat.lt_or_ge i 26 with h3 | h3
      · have := spV_lane (alg := alg) (f := f) (p := p) (rd := rd) (s1 := s1) (s2 := s2) (i := i - 1) (by omega)
        rw [show 1 + (i - 1) = i by omega, e] at this
        cases this
      · have : i = 26 ∨ i = 27 ∨ i = 28 ∨ i = 29 := by omega
        rcases this with rfl | rfl | rfl | rfl
        · rw [spV_26] at e; cases e
        · rw [spV_27] at e; cases e
        · rw [spV_28] at e; injection e with e; exact h1 x e
        · rw [spV_29] at e; injection e with e; exact h2 x e
  · rw [Array.getElem?_eq_none (by rw [spV_size]; omega)] at e; cases e
theorem words_ne_spV {W : World} {B : Option Addr} {xs : List Nat} {S : Nat} {alg p : Int} {f : Nat → Nat} {rd : Bool} {A1 A2 : Option Addr} {n1 c1 n2 c2 : Nat} (h : Words .u8 W B xs) (H : Hold W S 30 (spV alg f p rd (.slice A1 n1 c1) (.slice A2 n2 c2))) : xs ≠ [] → ∀ a, B = some a → a.block ≠ S := fun hn a e he => by
  obtain ⟨g, o, e2, hc⟩ := h 0 (List.length_pos_iff.2 hn)
  rw [e] at e2
  injection e2 with e2
  subst e2
  obtain rfl : g = S := he
  obtain ⟨t, hg, -⟩ := H.heap
  rw [cell_of_row _ _ _ _ t _ hg] at hc
  exact spV_noU8 (fun x h => by cases h) (fun x h => by cases h) _ _ hc
theorem fold_two (u : Array Value) (s1 s2 : Value) : (List.range (#[s1, s2] : Array Value).toList.length).foldl (fun u j => u.setIfInBounds (28 + j) ((#[s1, s2] : Array Value).toList.getD j undef)) u = (u.setIfInBounds 28 s1).setIfInBounds 29 s2 := rfl
theorem run_storeN {W : World} {n : Nat} {alg p : Int} {f : Nat → Nat} {rd : Bool} {t1 t2 : Value} (H : Hold W n 30 (spV alg f p rd t1 t2)) (s1 s2 : Value) (h1 : OneCells #[s1, s2]) :
    (storeRow 36 (.pointer (some ⟨n, 28, none⟩)) (.agg #[s1, s2])).run Tryz.prog W = .ok () (W.setRow n (spV alg f p rd s1 s2)) := by
  have := run_storeAt_mid (P := Tryz.prog) W n 28 36 #[s1, s2] (hold_there (m := 2) H spV_size (by omega)) (by kernel_rfl) h1
  rw [setCells_rowU _ _ _ _ H spV_size] at this
  rw [fold_two, spV_put1, spV_put2] at this
  exact this
def TellS (w : World) (res : Bool) (a x6 : Nat) (fl : Bool) (f : Nat → Nat) (x1 x2 : List Nat) (e : Ending) (w' : World) : Prop := ∃ v, e = .returned (.tuple #[.agg v, .bool res]) ∧
  (res = true → ∃ B1 d1 B2 d2, v = spV a f (x6 : Nat) fl (.slice B1 x1.length d1) (.slice B2 x2.length d2) ∧ Words .u8 w' B1 x1 ∧ Words .u8 w' B2 x2) ∧ (res = false → v = spV 0 (fun _ => 0) 0 false (.slice none 0 0) (.slice none 0 0)) ∧ Below w.heap.size w w'
theorem TellS.no {w w' : World} {a x6 : Nat} {fl : Bool} {f : Nat → Nat} {x1 x2 : List Nat} (hb : Below w.heap.size w w') : TellS w false a x6 fl f x1 x2 (.returned (.tuple #[.agg (spV 0 (fun _ => 0) 0 false (.slice none 0 0) (.slice none 0 0)), .bool false])) w' :=
  ⟨_, rfl, fun h => (by cases h), fun _ => rfl, hb⟩
theorem TellS.yes {w w' : World} {a x6 : Nat} {fl : Bool} {f : Nat → Nat} {x1 x2 : List Nat} {v : Array Value} {B1 : Option Addr} {d1 : Nat} {B2 : Option Addr} {d2 : Nat} (hv : v = spV a f (x6 : Nat) fl (.slice B1 x1.length d1) (.slice B2 x2.length d2)) (h1 : Words .u8 w' B1 x1) (h2 : Words .u8 w' B2 x2) (hb : Below w.heap.size w w') :
    TellS w true a x6 fl f x1 x2 (.returned (.tuple #[.agg v, .bool true])) w' := ⟨_, rfl, fun _ => ⟨B1, d1, B2, d2, hv, h1, h2⟩, fun h => (by cases h), hb⟩
theorem nmOnes {A1 A2 : Option Addr} {n1 c1 n2 c2 : Nat} : OneCells #[.slice A1 n1 c1, .slice A2 n2 c2] := by simp [OneCells, Value.oneCell']
theorem storeNm (x y : Value) : Instr.storeAt 36 x y = storeRow 36 x y := rfl
theorem storeG (x y : Value) : Instr.storeAt 69 x y = storeRow 69 x y := rfl
theorem run_storeG {w : World} {n : Nat} {c' : Array Value} (hg : RowOk w n 3) (hs' : c'.size = 3) (h1 : OneCells c') :
    (storeRow 69 (.pointer (some ⟨n, 0, none⟩)) (.agg c')).run Tryz.prog w = .ok () (w.setRow n c') := storeAt_row hg (by kernel_rfl) hs' h1
theorem zeroG (w : World) : (zeroValue 69).run Tryz.prog w = .ok (.agg #[.int .u64 0, .slice none 0 0, .int .i64 0]) w := by kernel_rfl
theorem gotOnes {A : Option Addr} {n c : Nat} {e : Int} : OneCells #[.int .u64 0, .slice A n c, .int .i64 e] := by simp [OneCells, Value.oneCell']
theorem run_bsS4 (a p : Int) (f : Nat → Nat) (fl : Bool) (W : World) : (bsem 38 #[(0, .int .i64 a), (3, .bool fl), (2, .int .i64 p), (1, .agg (uTab 25 f))]).run Tryz.prog W = .ok (.agg (spV a f p fl (.slice none 0 0) (.slice none 0 0))) W := run_build W 38 _ _ (by kernel_rfl)
theorem bsSU0 (W : World) : (bsem 38 #[]).run Tryz.prog W = .ok (.agg (spV 0 (fun _ => 0) 0 false (.slice none 0 0) (.slice none 0 0))) W := run_build W 38 _ _ (by kernel_rfl)
section
attribute [local go_sem ↓] loadSp storeSU zeroSU bsSU cut_hide storeNm storeG zeroG
attribute [local go_sem] run_bsS4 bsSU0
set_option maxRecDepth 100000 in
set_option maxHeartbeats 4000000 in
theorem refSponge_core (ok1 ok2 res : Bool) (a kd N x5 x6 E1 E2 : Nat) (fl : Bool) (f : Nat → Nat) (b0 o c : Nat) (A : Option Addr) (xs x1 x2 zs : List Nat) (w : World) (hA : A = some ⟨b0, o, none⟩) (hlen : xs.length = N) (hN : 207 ≤ N) (hN3 : N ≤ 90000) (hc : N ≤ c) (hkd : 2 ≤ kd) (hE : 207 + E1 ≤ N) (hx6 : x6 < 256)
    (hres : res = (!(decide (kd = 4) && (decide (E1 = 0) || decide (E2 = 0))) && (ok1 && ok2))) (hnl : kd ≠ 4 → x1 = [] ∧ x2 = [])
    (hw : Words .u8 w A xs) (h5 : w.cell? ⟨b0, o + 5, none⟩ = some (.int .u8 (x5 : Nat))) (h6 : w.cell? ⟨b0, o + 6, none⟩ = some (.int .u8 (x6 : Nat))) (hfl : (((x5 : Nat) : Int) == 1) = fl)
    (U : Option Addr → Nat → Option Addr → Nat → Array Value) (hU : ∀ B1 d1 B2 d2, U B1 d1 B2 d2 = spV a f (x6 : Nat) fl (.slice B1 x1.length d1) (.slice B2 x2.length d2))
    (CA : ∀ W, Words .u8 W A xs → Calls Tryz.prog 16 #[.slice A N c] W fun e w' => e = .returned (.int .i64 (a : Nat)) ∧ W = w')
    (CKd : ∀ W, Calls Tryz.prog 31 #[.int .i64 (a : Nat)] W fun e w' => e = .returned (.int .i64 (kd : Nat)) ∧ W = w')
    (CO : ∀ W, Words .u8 W A xs → Calls Tryz.prog 32 #[.slice (cutA A c 7) 200 (c - 7)] W fun e w' => e = .returned (.agg (uTab 25 f)) ∧ Below W.heap.size W w')
    (C1 : kd = 4 → ∀ W, Words .u8 W A xs → Calls Tryz.prog 33 #[.slice (cutA A c 207) (N - 207) (c - 207)] W fun e w' => ∃ B d, e = .returned (.agg #[.int .u64 0, .slice B x1.length d, .int .i64 (E1 : Nat)]) ∧ Words .u8 w' B x1 ∧ Below W.heap.size W w')
    (C2 : kd = 4 → ∀ W, Words .u8 W A xs → Calls Tryz.prog 33 #[.slice (cutA A c (207 + E1)) (N - (207 + E1)) (c - (207 + E1))] W fun e w' => ∃ B d, e = .returned (.agg #[.int .u64 0, .slice B x2.length d, .int .i64 (E2 : Nat)]) ∧ Words .u8 w' B x2 ∧ Below W.heap.size W w')
    (CR : ∀ W B1 d1 B2 d2, Calls Tryz.prog 22 #[.agg (U B1 d1 B2 d2)] W fun e w' => e = .returned (.bool ok1) ∧ Below W.heap.size W w')
    (CK : ok1 = true → ∀ W B1 d1 B2 d2, Words .u8 W B1 x1 → Words .u8 W B2 x2 → Calls Tryz.prog 34 #[.agg (U B1 d1 B2 d2)] W fun e w' => ∃ A9 c9, e = .returned (.slice A9 zs.length c9) ∧ Words .u8 w' A9 zs ∧ Below W.heap.size W w')
    (CS : ok1 = true → ∀ W A9 c9, Words .u8 W A9 zs → Words .u8 W A xs → Calls Tryz.prog 19 #[.slice A9 zs.length c9, .slice A N c] W fun e w' => e = .returned (.bool ok2) ∧ Below W.heap.size W w') :
    Calls Tryz.prog 12 #[.slice A N c] w (TellS w res a x6 fl f x1 x2) := by
  have hb0 : Below w.heap.size w (w.alloc (.cells (spV 0 (fun _ => 0) 0 false (.slice none 0 0) (.slice none 0 0)) 38)) := (Below.refl _ w).alloc (Nat.le_refl _) _
  have FW := Lib.hid (hw.below hb0 (Nat.le_refl _))
  have hlow : xs ≠ [] → ∀ a, A = some a → a.block < w.heap.size := fun hn a e => by
    obtain ⟨g', o', e', hl, -⟩ := hw.block (i := 0) (by omega)
    rw [e] at e'; cases e'; exact hl
  have HL := Lib.hid hlow
  have hb1 := below_drew hb0
  have BD := Lib.hid hb1
  have FD := Lib.hid (hw.below hb1 (Nat.le_refl _))
  have HD := Lib.hid (Hold.new w (spV 0 (fun _ => 0) 0 false (.slice none 0 0) (.slice none 0 0)) 38 30 spV_size).drew
  have hb2 : Below w.heap.size w ((w.alloc (.cells (spV 0 (fun _ => 0) 0 false (.slice none 0 0) (.slice none 0 0)) 38)).alloc (.cells (spV 0 (fun _ => 0) 0 false (.slice none 0 0) (.slice none 0 0)) 38)).drew := below_drew (hb0.alloc (by simp) _)
  have BE := Lib.hid hb2
  have FE := Lib.hid (hw.below hb2 (Nat.le_refl _))
  have HE1 := Lib.hid ((Hold.new w (spV 0 (fun _ => 0) 0 false (.slice none 0 0) (.slice none 0 0)) 38 30 spV_size).past (.cells (spV 0 (fun _ => 0) 0 false (.slice none 0 0) (.slice none 0 0)) 38)).drew
  have HE2 := Lib.hid (Hold.new1 w (.cells (spV 0 (fun _ => 0) 0 false (.slice none 0 0) (.slice none 0 0)) 38) (spV 0 (fun _ => 0) 0 false (.slice none 0 0) (.slice none 0 0)) 38 30 spV_size).drew
  have hne : xs ≠ [] := fun e => by rw [e] at hlen; simp at hlen; omega
  have hbl : b0 < w.heap.size := hlow hne ⟨b0, o, none⟩ hA
  have HP5 : Hid (∀ W, Below w.heap.size w W → W.cell? ⟨b0, o + 5, none⟩ = some (.int .u8 (x5 : Nat))) := fun W hb => (hb.cell (p := ⟨b0, o + 5, none⟩) hbl).trans h5
  have HP6 : Hid (∀ W, Below w.heap.size w W → W.cell? ⟨b0, o + 6, none⟩ = some (.int .u8 (x6 : Nat))) := fun W hb => (hb.cell (p := ⟨b0, o + 6, none⟩) hbl).trans h6
  have q0 := HP5.out _ hb1
  have q0' := HP6.out _ hb1
  have q9 := HP5.out _ hb2
  have q9' := HP6.out _ hb2
  have c1 : ∀ W, (cutAt 22 (.slice A N c) (some (.int .i64 7)) (some (.int .i64 207)) none).run Tryz.prog W = .ok (.slice (cutA A c 7) 200 (c - 7)) W := fun W => cut2_run A N c 7 207 (by omega) (by omega) W
  have c2 : ∀ W, (cutAt 22 (.slice A N c) (some (.int .i64 207)) none none).run Tryz.prog W = .ok (.slice (cutA A c 207) (N - 207) (c - 207)) W := fun W => cut_from_run A N c 207 (by omega) W
  have c3 : ∀ W, (cutAt 22 (.slice A N c) (some (.int .i64 (207 + (E1 : Int)))) none none).run Tryz.prog W = .ok (.slice (cutA A c (207 + E1)) (N - (207 + E1)) (c - (207 + E1))) W := fun W => by
    rw [show (207 + (E1 : Int)) = ((207 + E1 : Nat) : Int) by omega]
    exact cut_from_run A N c (207 + E1) (by omega) W
  have hwr : IntKind.i64.wrap (207 + (E1 : Int)) = 207 + (E1 : Int) := by rw [IntKind.wrap_i64]; omega
  have hw6 : IntKind.i64.wrap (x6 : Int) = (x6 : Int) := by rw [IntKind.wrap_i64]; omega
  have i5 : (5 : Int) < (N : Int) := by omega
  have i6 : (6 : Int) < (N : Int) := by omega
  have m1 : decide ((kd : Int) < 2) = false := decide_eq_false (by omega)
  have m2 : decide ((N : Int) < 207) = false := decide_eq_false (by omega)
  replace CA := Lib.hid CA
  replace CKd := Lib.hid CKd
  replace CO := Lib.hid CO
  replace C1 := Lib.hid C1
  replace C2 := Lib.hid C2
  replace CR := Lib.hid CR
  have HUS : Hid (∀ B1 d1 B2 d2, (U B1 d1 B2 d2).size = 30) := fun _ _ _ _ => by rw [hU]; exact spV_size
  have HUO : Hid (∀ B1 d1 B2 d2, OneCells (U B1 d1 B2 d2)) := fun _ _ _ _ => by rw [hU]; exact spV_ones
  have HU := Lib.hid hU
  have HNL := Lib.hid hnl
  have HRES := Lib.hid hres
  clear hU hw h5 h6 hb0 hb1 hb2 hlow hlen hne hnl hbl hres
  subst hA
  go_enter Tryz.func12, Tryz.ntmps12
  go_wp2_with (first
    | (go_at_call 16; (with_reducible refine (CA.out _ FW.out).mono ?_); rintro e u1 ⟨rfl, rfl⟩)
    | (go_at_call 31; (with_reducible refine (CKd.out _).mono ?_); rintro e u1 ⟨rfl, rfl⟩))
  go_cut [5] from 19 to 34 (fun v wc => ∃ S, v = .pointer (some ⟨S, 0, none⟩) ∧ Hid (RP w S (spV a f (x6 : Nat) fl (.slice none 0 0) (.slice none 0 0)) (some ⟨b0, o, none⟩) xs wc))
  case first =>
    go_region_law (first
      | (go_simp
         go_at_call 32
         (with_reducible refine (CO.out _ FD.out).mono ?_)
         rintro e u1 ⟨rfl, hb⟩
         have r1 := (Hold.new u1 (spV 0 (fun _ => 0) 0 false (.slice none 0 0) (.slice none 0 0)) 38 30 spV_size).ok
         have r2 := run_storeSU r1 (c' := (spV a f (x6 : Nat) fl (.slice none 0 0) (.slice none 0 0))) spV_size spV_ones
         have t1 := BD.out.trans (hb.mono BD.out.size)
         have t2 := HD.out.call hb
         have q5 := HP5.out _ t1
         have q6 := HP6.out _ t1
         have q7 := HP5.out _ (t1.alloc t1.size (.cells (spV 0 (fun _ => 0) 0 false (.slice none 0 0) (.slice none 0 0)) 38))
         have q8 := HP6.out _ (t1.alloc t1.size (.cells (spV 0 (fun _ => 0) 0 false (.slice none 0 0) (.slice none 0 0)) 38))
         have t3 := FD.out.below hb (Nat.le_refl _)
         have RR := Lib.hid (RP.new (alg := (a : Int)) (p := (x6 : Nat)) (f := f) (rd := fl) (s1 := .slice none 0 0) (s2 := .slice none 0 0) t1 t2 t3 HL.out)
         clear hb t1 t2 t3)
      | (go_simp
         go_at_call 32
         (with_reducible refine (CO.out _ FE.out).mono ?_)
         rintro e u1 ⟨rfl, hb⟩
         have r2 := run_storeSU (HE2.out.call hb).ok (c' := (spV a f (x6 : Nat) fl (.slice none 0 0) (.slice none 0 0))) spV_size spV_ones
         have t1 := BE.out.trans (hb.mono BE.out.size)
         have t2 := HE1.out.call hb
         have q5 := HP5.out _ t1
         have q6 := HP6.out _ t1
         have t3 := FE.out.below hb (Nat.le_refl _)
         have RR := Lib.hid (RP.old (alg := (a : Int)) (p := (x6 : Nat)) (f := f) (rd := fl) (s1 := .slice none 0 0) (s2 := .slice none 0 0) t1 t2 (HE2.out.call hb) t3 HL.out)
         clear hb t1 t2 t3))
    all_goals
      (try go_wp2_with fail)
      go_meet
      case rel => exact ⟨_, rfl, RR⟩
  case rest =>
  obtain ⟨S, rfl, F4⟩ := hcut
  clear q0 q0' q9 q9' HP5 HP6 c1 CO FD HD BD FE HE1 HE2 BE FW HL CA
  by_cases h4 : kd = 4
  · have n4 : (((kd : Nat) : Int) == 4) = true := by rw [beq_iff_eq]; omega
    replace C1 := Lib.hid (C1.out h4)
    replace C2 := Lib.hid (C2.out h4)
    clear HNL
    by_cases e1 : E1 = 0
    · have m3 : (((E1 : Nat) : Int) == 0) = true := by rw [beq_iff_eq]; omega
      obtain rfl : res = false := by rw [HRES.out]; simp [h4, e1]
      clear e1 h4 HRES CK CS CR
      go_wp2_with (first
        | (go_at_call 31; (with_reducible refine (CKd.out _).mono ?_); rintro e u1 ⟨rfl, rfl⟩)
        | (go_at_call 33
           (with_reducible refine (C1.out _ F4.out.words).mono ?_)
           rintro e u2 ⟨B1, d1, rfl, hw1, hb⟩
           have k1 := F4.out.call hb
           have s2 := run_storeG (Hold.new u2 #[.int .u64 0, .slice none 0 0, .int .i64 0] 69 3 rfl).ok (c' := #[.int .u64 0, .slice B1 x1.length d1, .int .i64 (E1 : Nat)]) rfl gotOnes
           have hh := Hold.new u2 #[.int .u64 0, .slice B1 x1.length d1, .int .i64 (E1 : Nat)] 69 3 rfl
           have H6 := Lib.hid hh
           have q6 := hh.cell (i := 2) rfl
           have hd : Below u2.heap.size u2 (u2.alloc (.cells #[.int .u64 0, .slice B1 x1.length d1, .int .i64 (E1 : Nat)] 69)) := (Below.refl _ _).alloc (Nat.le_refl _) _
           have F5 := Lib.hid (k1.call hd)
           have W1a := Lib.hid (hw1.below hd (Nat.le_refl _))
           clear k1 hb hd hw1 hh)
        | (go_at_call 33
           (with_reducible refine (C2.out _ F5.out.words).mono ?_)
           rintro e u3 ⟨B2, d2, rfl, hw2, hb⟩
           have k1 := F5.out.call hb
           have s3 := run_storeG (Hold.new u3 #[.int .u64 0, .slice none 0 0, .int .i64 0] 69 3 rfl).ok (c' := #[.int .u64 0, .slice B2 x2.length d2, .int .i64 (E2 : Nat)]) rfl gotOnes
           have h7 := Hold.new u3 #[.int .u64 0, .slice B2 x2.length d2, .int .i64 (E2 : Nat)] 69 3 rfl
           have hd : Below u3.heap.size u3 (u3.alloc (.cells #[.int .u64 0, .slice B2 x2.length d2, .int .i64 (E2 : Nat)] 69)) := (Below.refl _ _).alloc (Nat.le_refl _) _
           have h6 := (H6.out.call hb).call hd
           have q7 := h6.cell (i := 2) rfl
           have q8 := h6.cell (i := 1) rfl
           have q7' := h7.cell (i := 2) rfl
           have q8' := h7.cell (i := 1) rfl
           have k2 := k1.call hd
           have rn : w.heap.size ≠ u3.heap.size := Nat.ne_of_lt k1.res.lt
           have rs : S ≠ u3.heap.size := Nat.ne_of_lt k1.cell.lt
           have s5 := run_storeSU k2.res.ok (c' := (spV 0 (fun _ => 0) 0 false (.slice none 0 0) (.slice none 0 0))) spV_size spV_ones
           have HR6 := Lib.hid ((k1.res.set (spV 0 (fun _ => 0) 0 false (.slice none 0 0) (.slice none 0 0)) spV_size).past (.cells #[.int .u64 0, .slice B2 x2.length d2, .int .i64 (E2 : Nat)] 69))
           have hbb := below_setRow k1.below (Nat.le_refl _) (spV 0 (fun _ => 0) 0 false (.slice none 0 0) (.slice none 0 0))
           have HB6 := Lib.hid (hbb.alloc hbb.size (.cells #[.int .u64 0, .slice B2 x2.length d2, .int .i64 (E2 : Nat)] 69))
           clear k1 k2 hb hd hw2 q6 s2 h6 h7 hbb))
      exact row_tmp_ret (P := Tryz.prog) (n := w.heap.size) (k := 30) (c := (spV 0 (fun _ => 0) 0 false (.slice none 0 0) (.slice none 0 0))) rfl rfl rfl HR6.out Tryz.underlying38 rfl (by kernel_rfl) rfl (TellS.no HB6.out)
    · have m3 : (((E1 : Nat) : Int) == 0) = false := by rw [beq_eq_false_iff_ne]; omega
      by_cases e2 : E2 = 0
      · have m4 : (((E2 : Nat) : Int) == 0) = true := by rw [beq_iff_eq]; omega
        obtain rfl : res = false := by rw [HRES.out]; simp [h4, e2]
        clear e1 e2 h4 HRES CK CS CR
        go_wp2_with (first
          | (go_at_call 31; (with_reducible refine (CKd.out _).mono ?_); rintro e u1 ⟨rfl, rfl⟩)
          | (go_at_call 33
             (with_reducible refine (C1.out _ F4.out.words).mono ?_)
             rintro e u2 ⟨B1, d1, rfl, hw1, hb⟩
             have k1 := F4.out.call hb
             have s2 := run_storeG (Hold.new u2 #[.int .u64 0, .slice none 0 0, .int .i64 0] 69 3 rfl).ok (c' := #[.int .u64 0, .slice B1 x1.length d1, .int .i64 (E1 : Nat)]) rfl gotOnes
             have hh := Hold.new u2 #[.int .u64 0, .slice B1 x1.length d1, .int .i64 (E1 : Nat)] 69 3 rfl
             have H6 := Lib.hid hh
             have q6 := hh.cell (i := 2) rfl
             have hd : Below u2.heap.size u2 (u2.alloc (.cells #[.int .u64 0, .slice B1 x1.length d1, .int .i64 (E1 : Nat)] 69)) := (Below.refl _ _).alloc (Nat.le_refl _) _
             have F5 := Lib.hid (k1.call hd)
             have W1a := Lib.hid (hw1.below hd (Nat.le_refl _))
             clear k1 hb hd hw1 hh)
          | (go_at_call 33
             (with_reducible refine (C2.out _ F5.out.words).mono ?_)
             rintro e u3 ⟨B2, d2, rfl, hw2, hb⟩
             have k1 := F5.out.call hb
             have s3 := run_storeG (Hold.new u3 #[.int .u64 0, .slice none 0 0, .int .i64 0] 69 3 rfl).ok (c' := #[.int .u64 0, .slice B2 x2.length d2, .int .i64 (E2 : Nat)]) rfl gotOnes
             have h7 := Hold.new u3 #[.int .u64 0, .slice B2 x2.length d2, .int .i64 (E2 : Nat)] 69 3 rfl
             have hd : Below u3.heap.size u3 (u3.alloc (.cells #[.int .u64 0, .slice B2 x2.length d2, .int .i64 (E2 : Nat)] 69)) := (Below.refl _ _).alloc (Nat.le_refl _) _
             have h6 := (H6.out.call hb).call hd
             have q7 := h6.cell (i := 2) rfl
             have q8 := h6.cell (i := 1) rfl
             have q7' := h7.cell (i := 2) rfl
             have q8' := h7.cell (i := 1) rfl
             have k2 := k1.call hd
             have rn : w.heap.size ≠ u3.heap.size := Nat.ne_of_lt k1.res.lt
             have rs : S ≠ u3.heap.size := Nat.ne_of_lt k1.cell.lt
             have s5 := run_storeSU k2.res.ok (c' := (spV 0 (fun _ => 0) 0 false (.slice none 0 0) (.slice none 0 0))) spV_size spV_ones
             have HR6 := Lib.hid ((k1.res.set (spV 0 (fun _ => 0) 0 false (.slice none 0 0) (.slice none 0 0)) spV_size).past (.cells #[.int .u64 0, .slice B2 x2.length d2, .int .i64 (E2 : Nat)] 69))
             have hbb := below_setRow k1.below (Nat.le_refl _) (spV 0 (fun _ => 0) 0 false (.slice none 0 0) (.slice none 0 0))
             have HB6 := Lib.hid (hbb.alloc hbb.size (.cells #[.int .u64 0, .slice B2 x2.length d2, .int .i64 (E2 : Nat)] 69))
             clear k1 k2 hb hd hw2 q6 s2 h6 h7 hbb))
        exact row_tmp_ret (P := Tryz.prog) (n := w.heap.size) (k := 30) (c := (spV 0 (fun _ => 0) 0 false (.slice none 0 0) (.slice none 0 0))) rfl rfl rfl HR6.out Tryz.underlying38 rfl (by kernel_rfl) rfl (TellS.no HB6.out)
      · have m4 : (((E2 : Nat) : Int) == 0) = false := by rw [beq_eq_false_iff_ne]; omega
        cases ok1 with
        | false =>
          obtain rfl : res = false := by rw [HRES.out]; simp
          clear e1 e2 h4 HRES CK CS
          go_wp2_with (first
            | (go_at_call 31; (with_reducible refine (CKd.out _).mono ?_); rintro e u1 ⟨rfl, rfl⟩)
            | (go_at_call 33
               (with_reducible refine (C1.out _ F4.out.words).mono ?_)
               rintro e u2 ⟨B1, d1, rfl, hw1, hb⟩
               have k1 := F4.out.call hb
               have s2 := run_storeG (Hold.new u2 #[.int .u64 0, .slice none 0 0, .int .i64 0] 69 3 rfl).ok (c' := #[.int .u64 0, .slice B1 x1.length d1, .int .i64 (E1 : Nat)]) rfl gotOnes
               have hh := Hold.new u2 #[.int .u64 0, .slice B1 x1.length d1, .int .i64 (E1 : Nat)] 69 3 rfl
               have H6 := Lib.hid hh
               have q6 := hh.cell (i := 2) rfl
               have hd : Below u2.heap.size u2 (u2.alloc (.cells #[.int .u64 0, .slice B1 x1.length d1, .int .i64 (E1 : Nat)] 69)) := (Below.refl _ _).alloc (Nat.le_refl _) _
               have F5 := Lib.hid (k1.call hd)
               have W1a := Lib.hid (hw1.below hd (Nat.le_refl _))
               clear k1 hb hd hw1 hh)
            | (go_at_call 33
               (with_reducible refine (C2.out _ F5.out.words).mono ?_)
               rintro e u3 ⟨B2, d2, rfl, hw2, hb⟩
               have k1 := F5.out.call hb
               have s3 := run_storeG (Hold.new u3 #[.int .u64 0, .slice none 0 0, .int .i64 0] 69 3 rfl).ok (c' := #[.int .u64 0, .slice B2 x2.length d2, .int .i64 (E2 : Nat)]) rfl gotOnes
               have h7 := Hold.new u3 #[.int .u64 0, .slice B2 x2.length d2, .int .i64 (E2 : Nat)] 69 3 rfl
               have hd : Below u3.heap.size u3 (u3.alloc (.cells #[.int .u64 0, .slice B2 x2.length d2, .int .i64 (E2 : Nat)] 69)) := (Below.refl _ _).alloc (Nat.le_refl _) _
               have h6 := (H6.out.call hb).call hd
               have q7 := h6.cell (i := 2) rfl
               have q8 := h6.cell (i := 1) rfl
               have q7' := h7.cell (i := 2) rfl
               have q8' := h7.cell (i := 1) rfl
               have k2 := k1.call hd
               have rn : w.heap.size ≠ u3.heap.size := Nat.ne_of_lt k1.res.lt
               have rs : S ≠ u3.heap.size := Nat.ne_of_lt k1.cell.lt
               have w1b := W1a.out.below hb (Nat.le_refl _)
               have s4 := run_storeN k2.cell (.slice B1 x1.length d1) (.slice B2 x2.length d2) nmOnes
               have hd2 : Below (u3.setRow S (spV a f (x6 : Nat) fl (.slice B1 x1.length d1) (.slice B2 x2.length d2))).heap.size (u3.setRow S (spV a f (x6 : Nat) fl (.slice B1 x1.length d1) (.slice B2 x2.length d2))) ((u3.setRow S (spV a f (x6 : Nat) fl (.slice B1 x1.length d1) (.slice B2 x2.length d2))).alloc (.cells #[.int .u64 0, .slice B2 x2.length d2, .int .i64 (E2 : Nat)] 69)) := (Below.refl _ _).alloc (Nat.le_refl _) _
               have k3 := (k1.set (spV a f (x6 : Nat) fl (.slice B1 x1.length d1) (.slice B2 x2.length d2)) spV_size).call hd2
               have W1 := Lib.hid ((words_setRowN w1b (words_ne_spV w1b k1.cell) (spV a f (x6 : Nat) fl (.slice B1 x1.length d1) (.slice B2 x2.length d2))).below hd2 (Nat.le_refl _))
               have W2 := Lib.hid ((words_setRowN hw2 (words_ne_spV hw2 k1.cell) (spV a f (x6 : Nat) fl (.slice B1 x1.length d1) (.slice B2 x2.length d2))).below hd2 (Nat.le_refl _))
               clear hd2
               rw [← HU.out] at s4 k3 W1 W2
               have q9 := k3.cell.load (T := 38) Tryz.underlying38 rfl (by kernel_rfl)
               have F6 := Lib.hid k3
               clear k1 k2 k3 hb hd hw2 q6 s2 h6 h7 w1b)
            | (go_at_call 22
               (with_reducible refine (CR.out _ B1 d1 B2 d2).mono ?_)
               rintro e u5 ⟨rfl, hb⟩
               have k1 := F6.out.call hb
               have F7 := Lib.hid k1
               have V1 := Lib.hid (W1.out.below hb (Nat.le_refl _))
               have V2 := Lib.hid (W2.out.below hb (Nat.le_refl _))
               have s6 := run_storeSU k1.res.ok (c' := (spV 0 (fun _ => 0) 0 false (.slice none 0 0) (.slice none 0 0))) spV_size spV_ones
               clear hb k1))
          exact row_tmp_ret (P := Tryz.prog) (n := w.heap.size) (k := 30) (c := (spV 0 (fun _ => 0) 0 false (.slice none 0 0) (.slice none 0 0))) rfl rfl rfl (F7.out.res.set _ spV_size) Tryz.underlying38 rfl (by kernel_rfl) rfl (TellS.no (below_setRow F7.out.below (Nat.le_refl _) _))
        | true =>
          replace CK := Lib.hid (CK rfl)
          replace CS := Lib.hid (CS rfl)
          cases ok2 with
          | false =>
            obtain rfl : res = false := by rw [HRES.out]; simp
            clear e1 e2 h4 HRES
            go_wp2_with (first
              | (go_at_call 31; (with_reducible refine (CKd.out _).mono ?_); rintro e u1 ⟨rfl, rfl⟩)
              | (go_at_call 33
                 (with_reducible refine (C1.out _ F4.out.words).mono ?_)
                 rintro e u2 ⟨B1, d1, rfl, hw1, hb⟩
                 have k1 := F4.out.call hb
                 have s2 := run_storeG (Hold.new u2 #[.int .u64 0, .slice none 0 0, .int .i64 0] 69 3 rfl).ok (c' := #[.int .u64 0, .slice B1 x1.length d1, .int .i64 (E1 : Nat)]) rfl gotOnes
                 have hh := Hold.new u2 #[.int .u64 0, .slice B1 x1.length d1, .int .i64 (E1 : Nat)] 69 3 rfl
                 have H6 := Lib.hid hh
                 have q6 := hh.cell (i := 2) rfl
                 have hd : Below u2.heap.size u2 (u2.alloc (.cells #[.int .u64 0, .slice B1 x1.length d1, .int .i64 (E1 : Nat)] 69)) := (Below.refl _ _).alloc (Nat.le_refl _) _
                 have F5 := Lib.hid (k1.call hd)
                 have W1a := Lib.hid (hw1.below hd (Nat.le_refl _))
                 clear k1 hb hd hw1 hh)
              | (go_at_call 33
                 (with_reducible refine (C2.out _ F5.out.words).mono ?_)
                 rintro e u3 ⟨B2, d2, rfl, hw2, hb⟩
                 have k1 := F5.out.call hb
                 have s3 := run_storeG (Hold.new u3 #[.int .u64 0, .slice none 0 0, .int .i64 0] 69 3 rfl).ok (c' := #[.int .u64 0, .slice B2 x2.length d2, .int .i64 (E2 : Nat)]) rfl gotOnes
                 have h7 := Hold.new u3 #[.int .u64 0, .slice B2 x2.length d2, .int .i64 (E2 : Nat)] 69 3 rfl
                 have hd : Below u3.heap.size u3 (u3.alloc (.cells #[.int .u64 0, .slice B2 x2.length d2, .int .i64 (E2 : Nat)] 69)) := (Below.refl _ _).alloc (Nat.le_refl _) _
                 have h6 := (H6.out.call hb).call hd
                 have q7 := h6.cell (i := 2) rfl
                 have q8 := h6.cell (i := 1) rfl
                 have q7' := h7.cell (i := 2) rfl
                 have q8' := h7.cell (i := 1) rfl
                 have k2 := k1.call hd
                 have rn : w.heap.size ≠ u3.heap.size := Nat.ne_of_lt k1.res.lt
                 have rs : S ≠ u3.heap.size := Nat.ne_of_lt k1.cell.lt
                 have w1b := W1a.out.below hb (Nat.le_refl _)
                 have s4 := run_storeN k2.cell (.slice B1 x1.length d1) (.slice B2 x2.length d2) nmOnes
                 have hd2 : Below (u3.setRow S (spV a f (x6 : Nat) fl (.slice B1 x1.length d1) (.slice B2 x2.length d2))).heap.size (u3.setRow S (spV a f (x6 : Nat) fl (.slice B1 x1.length d1) (.slice B2 x2.length d2))) ((u3.setRow S (spV a f (x6 : Nat) fl (.slice B1 x1.length d1) (.slice B2 x2.length d2))).alloc (.cells #[.int .u64 0, .slice B2 x2.length d2, .int .i64 (E2 : Nat)] 69)) := (Below.refl _ _).alloc (Nat.le_refl _) _
                 have k3 := (k1.set (spV a f (x6 : Nat) fl (.slice B1 x1.length d1) (.slice B2 x2.length d2)) spV_size).call hd2
                 have W1 := Lib.hid ((words_setRowN w1b (words_ne_spV w1b k1.cell) (spV a f (x6 : Nat) fl (.slice B1 x1.length d1) (.slice B2 x2.length d2))).below hd2 (Nat.le_refl _))
                 have W2 := Lib.hid ((words_setRowN hw2 (words_ne_spV hw2 k1.cell) (spV a f (x6 : Nat) fl (.slice B1 x1.length d1) (.slice B2 x2.length d2))).below hd2 (Nat.le_refl _))
                 clear hd2
                 rw [← HU.out] at s4 k3 W1 W2
                 have q9 := k3.cell.load (T := 38) Tryz.underlying38 rfl (by kernel_rfl)
                 have F6 := Lib.hid k3
                 clear k1 k2 k3 hb hd hw2 q6 s2 h6 h7 w1b)
              | (go_at_call 22
                 (with_reducible refine (CR.out _ B1 d1 B2 d2).mono ?_)
                 rintro e u5 ⟨rfl, hb⟩
                 have k1 := F6.out.call hb
                 have F7 := Lib.hid k1
                 have V1 := Lib.hid (W1.out.below hb (Nat.le_refl _))
                 have V2 := Lib.hid (W2.out.below hb (Nat.le_refl _))
                 have q10 := k1.cell.load (T := 38) Tryz.underlying38 rfl (by kernel_rfl)
                 clear hb k1)
              | (go_at_call 34
                 (with_reducible refine (CK.out _ B1 d1 B2 d2 V1.out V2.out).mono ?_)
                 rintro e u6 ⟨A9, c9, rfl, hw9, hb⟩
                 have F8 := Lib.hid (F7.out.call hb)
                 have W9 := Lib.hid hw9
                 have X1 := Lib.hid (V1.out.below hb (Nat.le_refl _))
                 have X2 := Lib.hid (V2.out.below hb (Nat.le_refl _))
                 clear hb hw9 q10)
              | (go_at_call 19
                 (with_reducible refine (CS.out _ _ _ W9.out F8.out.words).mono ?_)
                 rintro e u7 ⟨rfl, hb⟩
                 have k1 := F8.out.call hb
                 have F9 := Lib.hid k1
                 have Y1 := Lib.hid (X1.out.below hb (Nat.le_refl _))
                 have Y2 := Lib.hid (X2.out.below hb (Nat.le_refl _))
                 have q11 := k1.cell.load (T := 38) Tryz.underlying38 rfl (by kernel_rfl)
                 have s6 := run_storeSU k1.res.ok (c' := (spV 0 (fun _ => 0) 0 false (.slice none 0 0) (.slice none 0 0))) spV_size spV_ones
                 clear hb k1))
            exact row_tmp_ret (P := Tryz.prog) (n := w.heap.size) (k := 30) (c := (spV 0 (fun _ => 0) 0 false (.slice none 0 0) (.slice none 0 0))) rfl rfl rfl (F9.out.res.set _ spV_size) Tryz.underlying38 rfl (by kernel_rfl) rfl (TellS.no (below_setRow F9.out.below (Nat.le_refl _) _))
          | true =>
            obtain rfl : res = true := by rw [HRES.out]; simp [h4, e1, e2]
            clear e1 e2 h4 HRES
            go_wp2_with (first
              | (go_at_call 31; (with_reducible refine (CKd.out _).mono ?_); rintro e u1 ⟨rfl, rfl⟩)
              | (go_at_call 33
                 (with_reducible refine (C1.out _ F4.out.words).mono ?_)
                 rintro e u2 ⟨B1, d1, rfl, hw1, hb⟩
                 have k1 := F4.out.call hb
                 have s2 := run_storeG (Hold.new u2 #[.int .u64 0, .slice none 0 0, .int .i64 0] 69 3 rfl).ok (c' := #[.int .u64 0, .slice B1 x1.length d1, .int .i64 (E1 : Nat)]) rfl gotOnes
                 have hh := Hold.new u2 #[.int .u64 0, .slice B1 x1.length d1, .int .i64 (E1 : Nat)] 69 3 rfl
                 have H6 := Lib.hid hh
                 have q6 := hh.cell (i := 2) rfl
                 have hd : Below u2.heap.size u2 (u2.alloc (.cells #[.int .u64 0, .slice B1 x1.length d1, .int .i64 (E1 : Nat)] 69)) := (Below.refl _ _).alloc (Nat.le_refl _) _
                 have F5 := Lib.hid (k1.call hd)
                 have W1a := Lib.hid (hw1.below hd (Nat.le_refl _))
                 clear k1 hb hd hw1 hh)
              | (go_at_call 33
                 (with_reducible refine (C2.out _ F5.out.words).mono ?_)
                 rintro e u3 ⟨B2, d2, rfl, hw2, hb⟩
                 have k1 := F5.out.call hb
                 have s3 := run_storeG (Hold.new u3 #[.int .u64 0, .slice none 0 0, .int .i64 0] 69 3 rfl).ok (c' := #[.int .u64 0, .slice B2 x2.length d2, .int .i64 (E2 : Nat)]) rfl gotOnes
                 have h7 := Hold.new u3 #[.int .u64 0, .slice B2 x2.length d2, .int .i64 (E2 : Nat)] 69 3 rfl
                 have hd : Below u3.heap.size u3 (u3.alloc (.cells #[.int .u64 0, .slice B2 x2.length d2, .int .i64 (E2 : Nat)] 69)) := (Below.refl _ _).alloc (Nat.le_refl _) _
                 have h6 := (H6.out.call hb).call hd
                 have q7 := h6.cell (i := 2) rfl
                 have q8 := h6.cell (i := 1) rfl
                 have q7' := h7.cell (i := 2) rfl
                 have q8' := h7.cell (i := 1) rfl
                 have k2 := k1.call hd
                 have rn : w.heap.size ≠ u3.heap.size := Nat.ne_of_lt k1.res.lt
                 have rs : S ≠ u3.heap.size := Nat.ne_of_lt k1.cell.lt
                 have w1b := W1a.out.below hb (Nat.le_refl _)
                 have s4 := run_storeN k2.cell (.slice B1 x1.length d1) (.slice B2 x2.length d2) nmOnes
                 have hd2 : Below (u3.setRow S (spV a f (x6 : Nat) fl (.slice B1 x1.length d1) (.slice B2 x2.length d2))).heap.size (u3.setRow S (spV a f (x6 : Nat) fl (.slice B1 x1.length d1) (.slice B2 x2.length d2))) ((u3.setRow S (spV a f (x6 : Nat) fl (.slice B1 x1.length d1) (.slice B2 x2.length d2))).alloc (.cells #[.int .u64 0, .slice B2 x2.length d2, .int .i64 (E2 : Nat)] 69)) := (Below.refl _ _).alloc (Nat.le_refl _) _
                 have k3 := (k1.set (spV a f (x6 : Nat) fl (.slice B1 x1.length d1) (.slice B2 x2.length d2)) spV_size).call hd2
                 have W1 := Lib.hid ((words_setRowN w1b (words_ne_spV w1b k1.cell) (spV a f (x6 : Nat) fl (.slice B1 x1.length d1) (.slice B2 x2.length d2))).below hd2 (Nat.le_refl _))
                 have W2 := Lib.hid ((words_setRowN hw2 (words_ne_spV hw2 k1.cell) (spV a f (x6 : Nat) fl (.slice B1 x1.length d1) (.slice B2 x2.length d2))).below hd2 (Nat.le_refl _))
                 clear hd2
                 rw [← HU.out] at s4 k3 W1 W2
                 have q9 := k3.cell.load (T := 38) Tryz.underlying38 rfl (by kernel_rfl)
                 have F6 := Lib.hid k3
                 clear k1 k2 k3 hb hd hw2 q6 s2 h6 h7 w1b)
              | (go_at_call 22
                 (with_reducible refine (CR.out _ B1 d1 B2 d2).mono ?_)
                 rintro e u5 ⟨rfl, hb⟩
                 have k1 := F6.out.call hb
                 have F7 := Lib.hid k1
                 have V1 := Lib.hid (W1.out.below hb (Nat.le_refl _))
                 have V2 := Lib.hid (W2.out.below hb (Nat.le_refl _))
                 have q10 := k1.cell.load (T := 38) Tryz.underlying38 rfl (by kernel_rfl)
                 clear hb k1)
              | (go_at_call 34
                 (with_reducible refine (CK.out _ B1 d1 B2 d2 V1.out V2.out).mono ?_)
                 rintro e u6 ⟨A9, c9, rfl, hw9, hb⟩
                 have F8 := Lib.hid (F7.out.call hb)
                 have W9 := Lib.hid hw9
                 have X1 := Lib.hid (V1.out.below hb (Nat.le_refl _))
                 have X2 := Lib.hid (V2.out.below hb (Nat.le_refl _))
                 clear hb hw9 q10)
              | (go_at_call 19
                 (with_reducible refine (CS.out _ _ _ W9.out F8.out.words).mono ?_)
                 rintro e u7 ⟨rfl, hb⟩
                 have k1 := F8.out.call hb
                 have F9 := Lib.hid k1
                 have Y1 := Lib.hid (X1.out.below hb (Nat.le_refl _))
                 have Y2 := Lib.hid (X2.out.below hb (Nat.le_refl _))
                 have q11 := k1.cell.load (T := 38) Tryz.underlying38 rfl (by kernel_rfl)
                 have s6 := run_storeSU k1.res.ok (c' := (U B1 d1 B2 d2)) (HUS.out _ _ _ _) (HUO.out _ _ _ _)
                 clear hb k1))
            exact row_tmp_ret (P := Tryz.prog) (n := w.heap.size) (k := 30) (c := (U B1 d1 B2 d2)) rfl rfl rfl (F9.out.res.set _ (HUS.out _ _ _ _)) Tryz.underlying38 rfl (by kernel_rfl) rfl
              (TellS.yes (HU.out B1 d1 B2 d2) (words_setRowN Y1.out (words_ne_spV Y1.out F9.out.res) _) (words_setRowN Y2.out (words_ne_spV Y2.out F9.out.res) _) (below_setRow F9.out.below (Nat.le_refl _) _))
  · have n4 : (((kd : Nat) : Int) == 4) = false := by rw [beq_eq_false_iff_ne]; omega
    obtain ⟨rfl, rfl⟩ := HNL.out h4
    have hx : (spV a f (x6 : Nat) fl (.slice none 0 0) (.slice none 0 0)) = U none 0 none 0 := (HU.out none 0 none 0).symm
    rw [hx] at F4
    clear HNL C1 C2 c2 c3 hx
    have p11 := F4.out.cell.load (T := 38) Tryz.underlying38 rfl (by kernel_rfl)
    have W1 : Hid (Words .u8 wc none ([] : List Nat)) := fun i hi => absurd hi (by simp)
    have W2 : Hid (Words .u8 wc none ([] : List Nat)) := fun i hi => absurd hi (by simp)
    cases ok1 with
    | false =>
      obtain rfl : res = false := by rw [HRES.out]; simp
      clear h4 HRES CK CS
      go_wp2_with (first
        | (go_at_call 31; (with_reducible refine (CKd.out _).mono ?_); rintro e u1 ⟨rfl, rfl⟩)
        | (go_at_call 22
           (with_reducible refine (CR.out _ none 0 none 0).mono ?_)
           rintro e u5 ⟨rfl, hb⟩
           have k1 := F4.out.call hb
           have F7 := Lib.hid k1
           have V1 := Lib.hid (W1.out.below hb (Nat.le_refl _))
           have V2 := Lib.hid (W2.out.below hb (Nat.le_refl _))
           have s6 := run_storeSU k1.res.ok (c' := (spV 0 (fun _ => 0) 0 false (.slice none 0 0) (.slice none 0 0))) spV_size spV_ones
           clear hb k1))
      exact row_tmp_ret (P := Tryz.prog) (n := w.heap.size) (k := 30) (c := (spV 0 (fun _ => 0) 0 false (.slice none 0 0) (.slice none 0 0))) rfl rfl rfl (F7.out.res.set _ spV_size) Tryz.underlying38 rfl (by kernel_rfl) rfl (TellS.no (below_setRow F7.out.below (Nat.le_refl _) _))
    | true =>
      replace CK := Lib.hid (CK rfl)
      replace CS := Lib.hid (CS rfl)
      cases ok2 with
      | false =>
        obtain rfl : res = false := by rw [HRES.out]; simp
        clear h4 HRES
        go_wp2_with (first
          | (go_at_call 31; (with_reducible refine (CKd.out _).mono ?_); rintro e u1 ⟨rfl, rfl⟩)
          | (go_at_call 22
             (with_reducible refine (CR.out _ none 0 none 0).mono ?_)
             rintro e u5 ⟨rfl, hb⟩
             have k1 := F4.out.call hb
             have F7 := Lib.hid k1
             have V1 := Lib.hid (W1.out.below hb (Nat.le_refl _))
             have V2 := Lib.hid (W2.out.below hb (Nat.le_refl _))
             have q10 := k1.cell.load (T := 38) Tryz.underlying38 rfl (by kernel_rfl)
             clear hb k1)
          | (go_at_call 34
             (with_reducible refine (CK.out _ none 0 none 0 V1.out V2.out).mono ?_)
             rintro e u6 ⟨A9, c9, rfl, hw9, hb⟩
             have F8 := Lib.hid (F7.out.call hb)
             have W9 := Lib.hid hw9
             have X1 := Lib.hid (V1.out.below hb (Nat.le_refl _))
             have X2 := Lib.hid (V2.out.below hb (Nat.le_refl _))
             clear hb hw9 q10)
          | (go_at_call 19
             (with_reducible refine (CS.out _ _ _ W9.out F8.out.words).mono ?_)
             rintro e u7 ⟨rfl, hb⟩
             have k1 := F8.out.call hb
             have F9 := Lib.hid k1
             have Y1 := Lib.hid (X1.out.below hb (Nat.le_refl _))
             have Y2 := Lib.hid (X2.out.below hb (Nat.le_refl _))
             have q11 := k1.cell.load (T := 38) Tryz.underlying38 rfl (by kernel_rfl)
             have s6 := run_storeSU k1.res.ok (c' := (spV 0 (fun _ => 0) 0 false (.slice none 0 0) (.slice none 0 0))) spV_size spV_ones
             clear hb k1))
        exact row_tmp_ret (P := Tryz.prog) (n := w.heap.size) (k := 30) (c := (spV 0 (fun _ => 0) 0 false (.slice none 0 0) (.slice none 0 0))) rfl rfl rfl (F9.out.res.set _ spV_size) Tryz.underlying38 rfl (by kernel_rfl) rfl (TellS.no (below_setRow F9.out.below (Nat.le_refl _) _))
      | true =>
        obtain rfl : res = true := by rw [HRES.out]; simp [h4]
        clear h4 HRES
        go_wp2_with (first
          | (go_at_call 31; (with_reducible refine (CKd.out _).mono ?_); rintro e u1 ⟨rfl, rfl⟩)
          | (go_at_call 22
             (with_reducible refine (CR.out _ none 0 none 0).mono ?_)
             rintro e u5 ⟨rfl, hb⟩
             have k1 := F4.out.call hb
             have F7 := Lib.hid k1
             have V1 := Lib.hid (W1.out.below hb (Nat.le_refl _))
             have V2 := Lib.hid (W2.out.below hb (Nat.le_refl _))
             have q10 := k1.cell.load (T := 38) Tryz.underlying38 rfl (by kernel_rfl)
             clear hb k1)
          | (go_at_call 34
             (with_reducible refine (CK.out _ none 0 none 0 V1.out V2.out).mono ?_)
             rintro e u6 ⟨A9, c9, rfl, hw9, hb⟩
             have F8 := Lib.hid (F7.out.call hb)
             have W9 := Lib.hid hw9
             have X1 := Lib.hid (V1.out.below hb (Nat.le_refl _))
             have X2 := Lib.hid (V2.out.below hb (Nat.le_refl _))
             clear hb hw9 q10)
          | (go_at_call 19
             (with_reducible refine (CS.out _ _ _ W9.out F8.out.words).mono ?_)
             rintro e u7 ⟨rfl, hb⟩
             have k1 := F8.out.call hb
             have F9 := Lib.hid k1
             have Y1 := Lib.hid (X1.out.below hb (Nat.le_refl _))
             have Y2 := Lib.hid (X2.out.below hb (Nat.le_refl _))
             have q11 := k1.cell.load (T := 38) Tryz.underlying38 rfl (by kernel_rfl)
             have s6 := run_storeSU k1.res.ok (c' := (U none 0 none 0)) (HUS.out _ _ _ _) (HUO.out _ _ _ _)
             clear hb k1))
        exact row_tmp_ret (P := Tryz.prog) (n := w.heap.size) (k := 30) (c := (U none 0 none 0)) rfl rfl rfl (F9.out.res.set _ (HUS.out _ _ _ _)) Tryz.underlying38 rfl (by kernel_rfl) rfl
          (TellS.yes (HU.out none 0 none 0) (words_setRowN Y1.out (words_ne_spV Y1.out F9.out.res) _) (words_setRowN Y2.out (words_ne_spV Y2.out F9.out.res) _) (below_setRow F9.out.below (Nat.le_refl _) _))
end
end Go.Proofs.YtflgnhplbblokaaGreatDoor.Sn
end

section
namespace Go.Proofs.YtflgnhplbblokaaGreatDoor.Cd
open Go.RowKit
set_option linter.unusedVariables false
set_option linter.unusedSimpArgs false
theorem cell_ret {P : Program} {fn : Func} {T : TypeId} {d : TypeDesc} {Q : Ending → World → Prop} {a : Act} {w : World} {n p k : Nat} {c : Array Value} (hr : fn.results = #[.cell p T]) (hp : a.tmps.getD p undef = .pointer (some ⟨n, 0, none⟩)) (hn : RowOk w n k) (hv : rowAt w n = c)
    (hu : P.underlying T = some d) (hdd : (match d with | .struct _ | .array _ _ => true | _ => false) = true) (hi : (P.info? T).map (·.size) = some k) (hd : a.defers = []) (hQ : Q (.returned (.agg c)) w) : bodyPost P fn Q .ret a w := by
  obtain ⟨t, hg, hs⟩ := hn.heap
  rw [hv] at hg hs
  exact bodyPost_ret (results_cell_row hr _ _ n t _ (0, 0) _ hp hg hu hdd (by rw [hs, hi])) hd hQ
theorem rowAt_setRow_at {w : World} {n k : Nat} {c : Array Value} (h : RowOk w n k) : rowAt (w.setRow n c) n = c := by
  obtain ⟨t, hg, hs⟩ := h.heap
  exact rowAt_of (setRow_heap _ _ _ _ _ _ hg)
theorem cut_both_run (A : Option Addr) (n c l h : Nat) (hl : l ≤ h) (hh : h ≤ c) (w : World) :
    (cutAt 22 (.slice A n c) (some (.int .i64 (l : Nat))) (some (.int .i64 (h : Nat))) none).run Tryz.prog w = .ok (.slice (cutA A c l) (h - l) (c - l)) w := by
  unfold cutAt Instr.sliceAt cutA
  rw [Sem.run_bind, run_underlying Tryz.underlying22 w]
  have h1 : (0 : Int) ≤ (h : Int) := by omega
  have h2 : (h : Int) ≤ (c : Int) := by omega
  have h3 : (0 : Int) ≤ (l : Int) := by omega
  have h4 : (l : Int) ≤ (h : Int) := by omega
  simp [Result.andThen, Instr.slice, Sem.run_bind, run_underlying Tryz.underlying22 w, Instr.sliceBounds, Instr.sliceBound, asIntOf, hl, hh]
theorem loadG (x : Value) : Instr.loadAt 69 x = loadRow 69 x := rfl
theorem storeG (x y : Value) : Instr.storeAt 69 x y = storeRow 69 x y := rfl
theorem run_storeG {w : World} {m : Nat} (n s : Int) (A : Option Addr) (l c : Nat) (hg : RowOk w m 3) :
    (storeRow 69 (.pointer (some ⟨m, 0, none⟩)) (.agg #[.int .u64 n, .slice A l c, .int .i64 s])).run Tryz.prog w = .ok () (w.setRow m #[.int .u64 n, .slice A l c, .int .i64 s]) := storeAt_row hg (by kernel_rfl) rfl (by simp [OneCells, Value.oneCell'])
section
attribute [local go_sem ↓] cut_hide loadG storeG
attribute [local go_sem] run_storeG
set_option maxRecDepth 20000 in
set_option maxHeartbeats 4000000 in
theorem refGetLeft_any (A : Option Addr) (c : Nat) (xs : List Nat) (hx : AllLt 256 xs) (hlc : xs.length ≤ c) (hcm : c ≤ maxLen) (hl : xs.length ≤ 100000) (w : World) (hw : Words .u8 w A xs) :
    Calls Tryz.prog 65 #[.slice A xs.length c] w fun e w' => e = .returned (.agg #[.int .u64 (getN xs : Nat), .slice none 0 0, .int .i64 (getS xs : Nat)]) ∧ Below w.heap.size w w' := by
  have HW := Lib.hid hw
  have HB0 : Hid (Below w.heap.size w (w.alloc (.cells #[.int .u64 0, .slice none 0 0, .int .i64 0] 69)) ∧ RowOk (w.alloc (.cells #[.int .u64 0, .slice none 0 0, .int .i64 0] 69)) w.heap.size 3) := ⟨(Below.refl _ _).alloc (Nat.le_refl _) _, (RowOk_alloc_at rfl).2 rfl⟩
  have hmx : Tryz.prog.follows .mixedOrders = true := by kernel_rfl
  clear hw
  go_enter Tryz.func65, Tryz.ntmps65
  go_wp2_with fail
  go_loopg [3] 8 (fun g' v3 wr => ∃ s : Nat, s + g' = 9 ∧ 1 ≤ s ∧ v3 = .int .i64 (s : Nat) ∧ Hid (Below w.heap.size w wr ∧ RowOk wr w.heap.size 3) ∧ Hid (glok xs = true → s ≤ hd xs))
  case atStart => exact ⟨1, by omega, by omega, rfl, HB0, fun h => by have := glok_hd h; have := nb_pos (inN xs); omega⟩
  case round =>
    obtain ⟨s, hs, hs1, rfl, HB, HN⟩ := hrel
    clear HB0
    by_cases hgo : s ≤ 8 ∧ s < xs.length
    · obtain ⟨hs8, hsl⟩ := hgo
      obtain ⟨g', rfl⟩ : ∃ g', gk = g' + 1 := ⟨gk - 1, by omega⟩
      obtain ⟨ds, hds⟩ : ∃ ds, ds = (xs.drop 1).take s := ⟨_, rfl⟩
      have hdl : ds.length = s := by rw [hds, List.length_take, List.length_drop]; omega
      have hdlt : AllLt 256 ds := by rw [hds]; exact (hx.drop _).take _
      have HWr := Lib.hid (HW.out.below HB.out.1 (Nat.le_refl _))
      have HDS := Lib.hid hds
      have hd1 : decide ((s : Int) < (xs.length : Int)) = true := decide_eq_true (by omega)
      go_wp2_with fail
      go_loopg [4, 5] s (fun g2 n i wq => ∃ k : Nat, k + g2 = s ∧ n = .int .u64 (be (ds.take k) : Nat) ∧ i = .int .i64 ((k : Int) + 1) ∧ wr = wq)
      case atStart => exact ⟨0, by omega, rfl, rfl, rfl⟩
      case round =>
        obtain ⟨k, hk, rfl, rfl, rfl⟩ := hrel
        by_cases hlt : k < s
        · obtain ⟨g2, rfl⟩ : ∃ g2, gk = g2 + 1 := ⟨gk - 1, by omega⟩
          obtain ⟨b, o, rfl, hc⟩ := HWr.out (k + 1) (by omega)
          have hy : xs.getD (k + 1) 0 = ds.getD k 0 := by rw [hds, getD_take _ _ _ hlt, getD_drop, Nat.add_comm]
          rw [hy] at hc
          have HE := Lib.hid (be_take ds k (by omega))
          have hlt2 := be_step_lt hdlt (k := k) (by omega) (by omega)
          have hyl := hdlt.at (i := k) (by omega)
          generalize be (ds.take k) = N at *
          generalize ds.getD k 0 = y at *
          clear hy hds
          go_wp2_with fail
          go_roundg g2
          case measure => omega
          case rel => exact ⟨k + 1, by omega, by rw [HE.out]; go_num, by go_num, rfl⟩
        · obtain rfl : k = s := by omega
          have hdt : ds.take k = ds := List.take_of_length_le (by omega)
          have HNL : be ds < 18446744073709551616 := by
            have h1 := be_lt ds hdlt
            rw [hdl] at h1
            exact Nat.lt_of_lt_of_le h1 (Nat.le_trans (Nat.pow_le_pow_right (by omega) hs8) (by omega))
          have htl : (xs.take (k + 1)).length = k + 1 := by rw [List.length_take]; omega
          have HLf := Lib.hid (fun W => refLeft_any (be ds) HNL W)
          have HSm := Lib.hid (fun W A' c' B d h1 h2 => same_any (leftN (be ds)) (xs.take (k + 1)) (leftN_lt _) (hx.take _) (by rw [leftN_length]; have := nb_le (be ds); omega) (by omega) W A' c' B d h1 h2)
          rw [htl] at HSm
          have HWt := Lib.hid (words_takeN (cutA_words (l := 0) HWr.out hlc) (k + 1))
          rw [List.drop_zero] at HWt
          have hcut := fun W => cut_to_run A xs.length c (k + 1) (by omega) W
          rw [show ((k + 1 : Nat) : Int) = (k : Int) + 1 by omega] at hcut
          have HD1 : Hid (sameB (leftN (be ds)) (xs.take (k + 1)) = true → getN xs = be ds ∧ getS xs = k + 1) := fun h => by
            have h1 := of_decide_eq_true h
            obtain ⟨e1, e2, e3⟩ := glok_size hx hs1 hs8 hsl (by rw [← HDS.out]; exact h1)
            unfold getN getS
            rw [if_pos e1, if_pos e1]
            have e4 := glok_hd e1
            exact ⟨by rw [e3, HDS.out], by omega⟩
          have HD2 : Hid (sameB (leftN (be ds)) (xs.take (k + 1)) = false → glok xs = true → k + 1 ≤ hd xs) := fun h hg => by
            have h1 := of_decide_eq_false h
            have h2 := HN.out hg
            rcases Nat.lt_or_ge k (hd xs) with h3 | h3
            · exact h3
            · have h4 : hd xs = k := by omega
              exfalso
              apply h1
              rw [HDS.out, ← h4]
              exact glok_at hg
          have hwp : IntKind.i64.wrap ((k : Int) + 1) = (k : Int) + 1 := by rw [IntKind.wrap_i64]; omega
          rw [hdt]
          generalize sameB (leftN (be ds)) (xs.take (k + 1)) = D at *
          generalize leftN (be ds) = L at *
          generalize be ds = N at *
          clear hdt hds hdl hdlt htl HN
          cases D
          · have HD3 := Lib.hid (HD2.out rfl)
            clear HD1 HD2
            go_wp2_with fail
            go_region_with_o (first
              | (go_at_call 90; (with_reducible refine (HLf.out _).mono ?_); rintro e w3 ⟨A3, c3, rfl, -, hw3, hb3⟩; have hb4 := ((Below.refl wr.heap.size wr).drewN 1).trans (hb3.mono (by simp)); have hw4 := HWt.out.below hb4 (Nat.le_refl _))
              | (go_at_call 19; (with_reducible refine (HSm.out _ _ _ _ _ hw3 hw4).mono ?_); rintro e w5 ⟨rfl, hb5⟩))
            all_goals
              have HB5 := Lib.hid (hb4.trans (hb5.mono hb4.size))
              clear hb4 hb5 hw3 hw4
              have HR5 := Lib.hid (RowOk.below HB.out.2 HB5.out (RowOk.lt HB.out.2))
              go_wp2_with fail
              go_roundg g'
              case measure => omega
              case rel => exact ⟨k + 1, by omega, by omega, by go_num, ⟨HB.out.1.trans (HB5.out.mono HB.out.1.size), HR5.out⟩, HD3.out⟩
          · have HD3 := Lib.hid (HD1.out rfl)
            clear HD1 HD2
            go_wp2_with fail
            go_region_with_o (first
              | (go_at_call 90; (with_reducible refine (HLf.out _).mono ?_); rintro e w3 ⟨A3, c3, rfl, -, hw3, hb3⟩; have hb4 := ((Below.refl wr.heap.size wr).drewN 1).trans (hb3.mono (by simp)); have hw4 := HWt.out.below hb4 (Nat.le_refl _))
              | (go_at_call 19; (with_reducible refine (HSm.out _ _ _ _ _ hw3 hw4).mono ?_); rintro e w5 ⟨rfl, hb5⟩))
            all_goals
              have HB5 := Lib.hid (hb4.trans (hb5.mono hb4.size))
              clear hb4 hb5 hw3 hw4
              have hrk := RowOk.below HB.out.2 HB5.out (RowOk.lt HB.out.2)
              have HB6 := Lib.hid (HB.out.1.trans (HB5.out.mono HB.out.1.size))
              go_wp2_with fail
              refine cell_ret rfl rfl ((RowOk_setRow_at hrk).2 rfl) (rowAt_setRow_at hrk) Tryz.underlying69 rfl (by kernel_rfl) rfl ⟨?_, below_setRow HB6.out (Nat.le_refl _) _⟩
              rw [HD3.out.1, HD3.out.2]; rfl
    · have hg : glok xs = false := by
        cases hg : glok xs
        · rfl
        · have h1 := HN.out hg
          have h2 := of_decide_eq_true hg
          omega
      have HGN := Lib.hid (getN_no hg)
      have hrk := HB.out.2
      clear HN hg
      by_cases h8 : s ≤ 8
      · have hd1 : decide ((s : Int) < (xs.length : Int)) = false := decide_eq_false (by omega)
        go_wp2_with fail
        refine cell_ret rfl rfl ((RowOk_setRow_at hrk).2 rfl) (rowAt_setRow_at hrk) Tryz.underlying69 rfl (by kernel_rfl) rfl ⟨?_, below_setRow HB.out.1 (Nat.le_refl _) _⟩
        rw [HGN.out.1, HGN.out.2]; rfl
      · have hd1 : decide ((s : Int) ≤ 8) = false := decide_eq_false (by omega)
        go_wp2_with fail
        refine cell_ret rfl rfl ((RowOk_setRow_at hrk).2 rfl) (rowAt_setRow_at hrk) Tryz.underlying69 rfl (by kernel_rfl) rfl ⟨?_, below_setRow HB.out.1 (Nat.le_refl _) _⟩
        rw [HGN.out.1, HGN.out.2]; rfl
end
section
attribute [local go_sem ↓] cut_hide loadG storeG
attribute [local go_sem] run_storeG
set_option maxRecDepth 20000 in
set_option maxHeartbeats 4000000 in
theorem refGetText_any (A : Option Addr) (c : Nat) (xs : List Nat) (hx : AllLt 256 xs) (hlc : xs.length ≤ c) (hcm : c ≤ maxLen) (hl : xs.length ≤ 100000) (w : World) (hw : Words .u8 w A xs) :
    Calls Tryz.prog 33 #[.slice A xs.length c] w fun e w' => ∃ B d, e = .returned (.agg #[.int .u64 0, .slice B (getB xs).length d, .int .i64 (getE xs : Nat)]) ∧ Words .u8 w' B (getB xs) ∧ Below w.heap.size w w' := by
  have hb0 : Below w.heap.size w (w.alloc (.cells #[.int .u64 0, .slice none 0 0, .int .i64 0] 69)) := (Below.refl _ _).alloc (Nat.le_refl _) _
  have hr0 : RowOk (w.alloc (.cells #[.int .u64 0, .slice none 0 0, .int .i64 0] 69)) w.heap.size 3 := (RowOk_alloc_at rfl).2 rfl
  have HG := Lib.hid (refGetLeft_any A c xs hx hlc hcm hl _ (hw.below hb0 (Nat.le_refl _)))
  have HB0 := Lib.hid hb0
  have HR0 := Lib.hid hr0
  have hN := getN_lt hx
  have hS := getS_le xs
  have HW := Lib.hid hw
  have hS9 := getS_le9 xs
  clear hb0 hr0
  cases hok : gtok xs
  · have HE := Lib.hid (gtok_no hok)
    have hno : getS xs = 0 ∨ (getS xs ≠ 0 ∧ getN xs % 8 ≠ 0) ∨ (getS xs ≠ 0 ∧ getN xs % 8 = 0 ∧ xs.length - getS xs < getN xs / 8) := by
      unfold gtok at hok
      by_cases h0 : getS xs = 0
      · exact .inl h0
      · have : glok xs = true := by
          cases h : glok xs
          · exact absurd (getN_no h).2 h0
          · rfl
        rw [this, Bool.true_and] at hok
        have := of_decide_eq_false hok
        by_cases h8 : getN xs % 8 = 0
        · exact .inr (.inr ⟨h0, h8, by omega⟩)
        · exact .inr (.inl ⟨h0, h8⟩)
    have HFIN : Hid (∀ w3 : World, Below w.heap.size w w3 → ∃ B d, Ending.returned (.agg #[.int .u64 0, .slice none 0 0, .int .i64 0]) = .returned (.agg #[.int .u64 0, .slice B (getB xs).length d, .int .i64 (getE xs : Nat)]) ∧ Words .u8 w3 B (getB xs) ∧ Below w.heap.size w w3) := fun w3 hb => by
      rw [HE.out.1, HE.out.2]
      exact ⟨none, 0, rfl, fun i hi => by simp at hi, hb⟩
    clear hok hw hx
    generalize getN xs = n at *
    generalize getS xs = s at *
    rcases hno with rfl | ⟨h0, h8⟩ | ⟨h0, h8, h9⟩
    · have hz := 0
      go_enter Tryz.func33, Tryz.ntmps33
      go_wp2_with (go_at_call 65; refine HG.out.mono ?_; rintro e w1 ⟨rfl, hb1⟩; have HB1 := Lib.hid (HB0.out.trans (hb1.mono HB0.out.size)); have HR1 := Lib.hid (RowOk.below HR0.out hb1 (RowOk.lt HR0.out)); have hr : RowOk (w1.alloc (.cells #[.int .u64 0, .slice none 0 0, .int .i64 0] 69)) w1.heap.size 3 := (RowOk_alloc_at rfl).2 rfl; have hr2 : ∀ c t, RowOk (w1.alloc (.cells c t)) w.heap.size 3 := (fun c t => (RowOk_alloc_past (RowOk.lt HR1.out)).2 HR1.out); have hne : w.heap.size ≠ w1.heap.size := Nat.ne_of_lt (RowOk.lt HR1.out); have hne2 : w1.heap.size ≠ w.heap.size := (Nat.ne_of_lt (RowOk.lt HR1.out)).symm; clear hb1)
      have hR : RowOk (w1.setRow w.heap.size #[.int .u64 0, .slice none 0 0, .int .i64 0]) w.heap.size 3 := (RowOk_setRow_at HR1.out).2 rfl
      have hA : rowAt (w1.setRow w.heap.size #[.int .u64 0, .slice none 0 0, .int .i64 0]) w.heap.size = #[.int .u64 0, .slice none 0 0, .int .i64 0] := rowAt_setRow_at HR1.out
      have hB := below_setRow HB1.out (Nat.le_refl _) #[.int .u64 0, .slice none 0 0, .int .i64 0]
      refine cell_ret rfl rfl ((RowOk_alloc_past (RowOk.lt hR)).2 hR) ((rowAt_alloc_past (RowOk.lt hR)).trans hA) Tryz.underlying69 rfl (by kernel_rfl) rfl ?_
      obtain ⟨B, d, e1, e2, e3⟩ := HFIN.out _ (hB.alloc hB.size _)
      first | exact ⟨B, d, e1, e2, e3⟩ | exact ⟨B, ⟨d, e1⟩, e2, e3⟩
    · have h8i : ((n : Int) % 8 != 0) = true := by rw [bne_iff_ne]; omega
      have h0i : ((s : Int) == 0) = false := by rw [beq_eq_false_iff_ne]; omega
      go_enter Tryz.func33, Tryz.ntmps33
      go_wp2_with (go_at_call 65; refine HG.out.mono ?_; rintro e w1 ⟨rfl, hb1⟩; have HB1 := Lib.hid (HB0.out.trans (hb1.mono HB0.out.size)); have HR1 := Lib.hid (RowOk.below HR0.out hb1 (RowOk.lt HR0.out)); have hr : RowOk (w1.alloc (.cells #[.int .u64 0, .slice none 0 0, .int .i64 0] 69)) w1.heap.size 3 := (RowOk_alloc_at rfl).2 rfl; have hr2 : ∀ c t, RowOk (w1.alloc (.cells c t)) w.heap.size 3 := (fun c t => (RowOk_alloc_past (RowOk.lt HR1.out)).2 HR1.out); have hne : w.heap.size ≠ w1.heap.size := Nat.ne_of_lt (RowOk.lt HR1.out); have hne2 : w1.heap.size ≠ w.heap.size := (Nat.ne_of_lt (RowOk.lt HR1.out)).symm; clear hb1)
      have hR : RowOk (w1.setRow w.heap.size #[.int .u64 0, .slice none 0 0, .int .i64 0]) w.heap.size 3 := (RowOk_setRow_at HR1.out).2 rfl
      have hA : rowAt (w1.setRow w.heap.size #[.int .u64 0, .slice none 0 0, .int .i64 0]) w.heap.size = #[.int .u64 0, .slice none 0 0, .int .i64 0] := rowAt_setRow_at HR1.out
      have hB := below_setRow HB1.out (Nat.le_refl _) #[.int .u64 0, .slice none 0 0, .int .i64 0]
      refine cell_ret rfl rfl ((RowOk_alloc_past (RowOk.lt hR)).2 hR) ((rowAt_alloc_past (RowOk.lt hR)).trans hA) Tryz.underlying69 rfl (by kernel_rfl) rfl ?_
      obtain ⟨B, d, e1, e2, e3⟩ := HFIN.out _ (hB.alloc hB.size _)
      first | exact ⟨B, d, e1, e2, e3⟩ | exact ⟨B, ⟨d, e1⟩, e2, e3⟩
    · have h8i : ((n : Int) % 8 != 0) = false := by rw [bne_eq_false_iff_eq]; omega
      have h0i : ((s : Int) == 0) = false := by rw [beq_eq_false_iff_ne]; omega
      have h10 : (xs.length : Int) - (s : Int) < (n : Int) / 8 := by omega
      go_enter Tryz.func33, Tryz.ntmps33
      go_wp2_with (go_at_call 65; refine HG.out.mono ?_; rintro e w1 ⟨rfl, hb1⟩; have HB1 := Lib.hid (HB0.out.trans (hb1.mono HB0.out.size)); have HR1 := Lib.hid (RowOk.below HR0.out hb1 (RowOk.lt HR0.out)); have hr : RowOk (w1.alloc (.cells #[.int .u64 0, .slice none 0 0, .int .i64 0] 69)) w1.heap.size 3 := (RowOk_alloc_at rfl).2 rfl; have hr2 : ∀ c t, RowOk (w1.alloc (.cells c t)) w.heap.size 3 := (fun c t => (RowOk_alloc_past (RowOk.lt HR1.out)).2 HR1.out); have hne : w.heap.size ≠ w1.heap.size := Nat.ne_of_lt (RowOk.lt HR1.out); have hne2 : w1.heap.size ≠ w.heap.size := (Nat.ne_of_lt (RowOk.lt HR1.out)).symm; clear hb1)
      have hR : RowOk (w1.setRow w.heap.size #[.int .u64 0, .slice none 0 0, .int .i64 0]) w.heap.size 3 := (RowOk_setRow_at HR1.out).2 rfl
      have hA : rowAt (w1.setRow w.heap.size #[.int .u64 0, .slice none 0 0, .int .i64 0]) w.heap.size = #[.int .u64 0, .slice none 0 0, .int .i64 0] := rowAt_setRow_at HR1.out
      have hB := below_setRow HB1.out (Nat.le_refl _) #[.int .u64 0, .slice none 0 0, .int .i64 0]
      refine cell_ret rfl rfl ((RowOk_alloc_past (RowOk.lt hR)).2 hR) ((rowAt_alloc_past (RowOk.lt hR)).trans hA) Tryz.underlying69 rfl (by kernel_rfl) rfl ?_
      obtain ⟨B, d, e1, e2, e3⟩ := HFIN.out _ (hB.alloc hB.size _)
      first | exact ⟨B, d, e1, e2, e3⟩ | exact ⟨B, ⟨d, e1⟩, e2, e3⟩
  · have HE := Lib.hid (gtok_yes hok)
    unfold gtok at hok
    obtain ⟨hG, hq⟩ := Bool.and_eq_true_iff.1 hok
    have hq2 := of_decide_eq_true hq
    have h0 : getS xs ≠ 0 := by have : getS xs = nb (inN xs) + 1 := (by unfold getS; rw [if_pos hG]); omega
    obtain ⟨m, hm⟩ : ∃ m, m = getN xs / 8 := ⟨_, rfl⟩
    have hcl : ((xs.drop (getS xs)).take m).length = m := by rw [List.length_take, List.length_drop]; omega
    have HWC := Lib.hid (words_takeN (cutA_words (l := getS xs) hw hlc) m)
    have HFIN : Hid (∀ w3 : World, Below w.heap.size w w3 → ∃ B d, Ending.returned (.agg #[.int .u64 0, .slice (cutA A c (getS xs)) m (c - getS xs), .int .i64 ((getS xs : Int) + (m : Int))]) = .returned (.agg #[.int .u64 0, .slice B (getB xs).length d, .int .i64 (getE xs : Nat)]) ∧ Words .u8 w3 B (getB xs) ∧ Below w.heap.size w w3) := fun w3 hb => by
      rw [HE.out.1, HE.out.2, ← hm, hcl]
      exact ⟨_, _, rfl, HWC.out.below hb (Nat.le_refl _), hb⟩
    have hcut := fun W => cut_both_run A xs.length c (getS xs) (getS xs + m) (by omega) (by omega) W
    rw [show getS xs + m - getS xs = m by omega, show ((getS xs + m : Nat) : Int) = (getS xs : Int) + (m : Int) by omega] at hcut
    have h8i : ((getN xs : Int) % 8 != 0) = false := by rw [bne_eq_false_iff_eq]; omega
    have hmi : (getN xs : Int) / 8 = (m : Int) := by omega
    have h0i : ((getS xs : Int) == 0) = false := by rw [beq_eq_false_iff_ne]; omega
    have h10 : decide ((xs.length : Int) - (getS xs : Int) < (m : Int)) = false := decide_eq_false (by omega)
    have hwp : IntKind.i64.wrap ((getS xs : Int) + (m : Int)) = (getS xs : Int) + (m : Int) := by rw [IntKind.wrap_i64]; omega
    have hm2 : m ≤ 100000 := by omega
    clear hok hw hx hq hq2 hG hm hcl
    generalize getN xs = n at *
    generalize getS xs = s at *
    go_enter Tryz.func33, Tryz.ntmps33
    go_wp2_with (go_at_call 65; refine HG.out.mono ?_; rintro e w1 ⟨rfl, hb1⟩; have HB1 := Lib.hid (HB0.out.trans (hb1.mono HB0.out.size)); have HR1 := Lib.hid (RowOk.below HR0.out hb1 (RowOk.lt HR0.out)); have hr : RowOk (w1.alloc (.cells #[.int .u64 0, .slice none 0 0, .int .i64 0] 69)) w1.heap.size 3 := (RowOk_alloc_at rfl).2 rfl; have hr2 : ∀ c t, RowOk (w1.alloc (.cells c t)) w.heap.size 3 := (fun c t => (RowOk_alloc_past (RowOk.lt HR1.out)).2 HR1.out); have hne : w.heap.size ≠ w1.heap.size := Nat.ne_of_lt (RowOk.lt HR1.out); have hne2 : w1.heap.size ≠ w.heap.size := (Nat.ne_of_lt (RowOk.lt HR1.out)).symm; clear hb1)
    have hq1 : (w1.alloc (.cells #[.int .u64 (n : Int), .slice none 0 0, .int .i64 (s : Int)] 69)).cell? ⟨w1.heap.size, 2, none⟩ = some (.int .i64 (s : Int)) := by rw [cell_of_row _ _ _ _ _ (0, 0) (heap_alloc_new w1 _)]; rfl
    have hq2 := hr2 #[.int .u64 (n : Int), .slice none 0 0, .int .i64 (s : Int)] 69
    have HB2 := Lib.hid (HB1.out.alloc HB1.out.size (.cells #[.int .u64 (n : Int), .slice none 0 0, .int .i64 (s : Int)] 69))
    generalize w1.alloc (.cells #[.int .u64 (n : Int), .slice none 0 0, .int .i64 (s : Int)] 69) = w2 at *
    have hq3 : RowOk w2.drew w.heap.size 3 := hq2
    clear hr hr2 HR1
    go_region
    go_wp2
    have hR : RowOk (w2.setRow w.heap.size #[.int .u64 0, .slice (cutA A c s) m (c - s), .int .i64 ((s : Int) + (m : Int))]) w.heap.size 3 := (RowOk_setRow_at hq2).2 rfl
    have hA : rowAt (w2.setRow w.heap.size #[.int .u64 0, .slice (cutA A c s) m (c - s), .int .i64 ((s : Int) + (m : Int))]) w.heap.size = #[.int .u64 0, .slice (cutA A c s) m (c - s), .int .i64 ((s : Int) + (m : Int))] := rowAt_setRow_at hq2
    have hB := below_setRow HB2.out (Nat.le_refl _) #[.int .u64 0, .slice (cutA A c s) m (c - s), .int .i64 ((s : Int) + (m : Int))]
    refine cell_ret (n := w.heap.size) (k := 3) rfl rfl (show RowOk (World.drew _) _ _ from hR) (show rowAt (World.drew _) _ = _ from hA) Tryz.underlying69 rfl (by kernel_rfl) rfl ?_
    obtain ⟨B, d, e1, e2, e3⟩ := HFIN.out _ (hB.drewN 1)
    exact ⟨B, d, e1, e2, e3⟩
end
end Go.Proofs.YtflgnhplbblokaaGreatDoor.Cd
end

section
namespace Go.Proofs.YtflgnhplbblokaaGreatDoor.Sn
open Go.RowKit Rw Cd Al Ln L64 Mk
set_option linter.unusedVariables false
set_option linter.unusedSimpArgs false
section
attribute [local go_sem ↓] loadSp storeSU zeroSU bsSU
attribute [local go_sem] bsSU0
set_option maxRecDepth 100000 in
set_option maxHeartbeats 2000000 in
theorem refSponge_small (a kd n c : Nat) (A : Option Addr) (w : World) (hz : kd < 2 ∨ n < 207)
    (CA : ∀ W, Below w.heap.size w W → Calls Tryz.prog 16 #[.slice A n c] W fun e w' => e = .returned (.int .i64 (a : Nat)) ∧ W = w')
    (CZ : ∀ W, Calls Tryz.prog 31 #[.int .i64 (a : Nat)] W fun e w' => e = .returned (.int .i64 (kd : Nat)) ∧ W = w') :
    Calls Tryz.prog 12 #[.slice A n c] w fun e w' => e = .returned (.tuple #[.agg zS, .bool false]) ∧ Below w.heap.size w w' := by
  have hb0 : Below w.heap.size w (w.alloc (.cells (spV 0 (fun _ => 0) 0 false (.slice none 0 0) (.slice none 0 0)) 38)) := (Below.refl _ w).alloc (Nat.le_refl _) _
  have H0 := Hold.new w (spV 0 (fun _ => 0) 0 false (.slice none 0 0) (.slice none 0 0)) 38 30 spV_size
  have s1 := run_storeSU H0.ok (c' := spV 0 (fun _ => 0) 0 false (.slice none 0 0) (.slice none 0 0)) spV_size spV_ones
  have HB := Lib.hid hb0
  have HH := Lib.hid H0
  replace CA := Lib.hid CA
  replace CZ := Lib.hid CZ
  have HZ : Hid (zS = spV 0 (fun _ => 0) 0 false (.slice none 0 0) (.slice none 0 0)) := rfl
  rw [HZ.out]
  clear hb0 H0
  by_cases h2 : kd < 2
  · have m1 : decide ((kd : Int) < 2) = true := decide_eq_true (by omega)
    clear hz h2
    go_enter Tryz.func12, Tryz.ntmps12
    go_wp2_with (first
      | (go_at_call 16; (with_reducible refine (CA.out _ HB.out).mono ?_); rintro e u1 ⟨rfl, rfl⟩)
      | (go_at_call 31; (with_reducible refine (CZ.out _).mono ?_); rintro e u1 ⟨rfl, rfl⟩))
    exact row_tmp_ret (P := Tryz.prog) (n := w.heap.size) (k := 30) (c := spV 0 (fun _ => 0) 0 false (.slice none 0 0) (.slice none 0 0)) rfl rfl rfl HH.out Tryz.underlying38 rfl (by kernel_rfl) rfl ⟨rfl, HB.out⟩
  · have m1 : decide ((kd : Int) < 2) = false := decide_eq_false (by omega)
    have m2 : decide ((n : Int) < 207) = true := decide_eq_true (by omega)
    clear hz h2
    go_enter Tryz.func12, Tryz.ntmps12
    go_wp2_with (first
      | (go_at_call 16; (with_reducible refine (CA.out _ HB.out).mono ?_); rintro e u1 ⟨rfl, rfl⟩)
      | (go_at_call 31; (with_reducible refine (CZ.out _).mono ?_); rintro e u1 ⟨rfl, rfl⟩))
    exact row_tmp_ret (P := Tryz.prog) (n := w.heap.size) (k := 30) (c := spV 0 (fun _ => 0) 0 false (.slice none 0 0) (.slice none 0 0)) rfl rfl rfl HH.out Tryz.underlying38 rfl (by kernel_rfl) rfl ⟨rfl, HB.out⟩
end
theorem refSponge_any (A : Option Addr) (c : Nat) (xs : List Nat) (hx : AllLt 256 xs) (hlc : xs.length ≤ c) (hcm : c ≤ maxLen) (hmax : xs.length ≤ 90000) (w : World) (hw : Words .u8 w A xs) :
    Calls Tryz.prog 12 #[.slice A xs.length c] w fun e w' => ∃ u, e = .returned (.tuple #[.agg u, .bool (isP xs)]) ∧ GP 0 xs u w' ∧ Below w.heap.size w w' := by
  have CA0 := fun W (h : Words .u8 W A xs) => refAlg_any A c xs hx W h
  have CKd := fun W => refKind_any (algU xs : Int) W
  by_cases hsm : kdU xs < 2 ∨ xs.length < 207
  · have hB : isP xs = false := by
      cases h : isP xs
      · rfl
      · have S := isP_spec h
        have := S.len
        have := S.two
        omega
    rw [hB]
    exact (refSponge_small (algU xs) (kdU xs) xs.length c A w hsm (fun W hb => CA0 W (hw.below hb (Nat.le_refl _))) CKd).mono fun e w' k => by
      obtain ⟨rfl, k2⟩ := k
      exact ⟨zS, rfl, GP.nothing hB w', k2⟩
  · have hk2 : 2 ≤ kdU xs := by omega
    have hl : 207 ≤ xs.length := by omega
    have ha256 : algU xs < 256 := by have := algU_le xs; omega
    obtain ⟨b0, o, hA, -, -⟩ := hw.block (i := 0) (by omega)
    have h5 : w.cell? ⟨b0, o + 5, none⟩ = some (.int .u8 (xs.getD 5 0 : Nat)) := by
      obtain ⟨b', o', e', hc⟩ := hw 5 (by omega)
      rw [hA] at e'; cases e'; exact hc
    have h6 : w.cell? ⟨b0, o + 6, none⟩ = some (.int .u8 (pAt xs : Nat)) := by
      obtain ⟨b', o', e', hc⟩ := hw 6 (by omega)
      rw [hA] at e'; cases e'; exact hc
    have hE1 := getE_le (xs.drop 207)
    have hdl : (xs.drop 207).length = xs.length - 207 := List.length_drop
    have CO : ∀ W, Words .u8 W A xs → Calls Tryz.prog 32 #[.slice (cutA A c 7) 200 (c - 7)] W fun e w' => e = .returned (.agg (uTab 25 (pF xs))) ∧ Below W.heap.size W w' := fun W hW =>
      refOf14_any (cutA A c 7) (c - 7) ((xs.drop 7).take 200) ((hx.drop _).take _) (by rw [List.length_take, List.length_drop]; omega) W (words_takeN (cutA_words hW hlc) 200)
    have C1 : kdU xs = 4 → ∀ W, Words .u8 W A xs → Calls Tryz.prog 33 #[.slice (cutA A c 207) (xs.length - 207) (c - 207)] W fun e w' => ∃ B d, e = .returned (.agg #[.int .u64 0, .slice B (pN1 xs).length d, .int .i64 (getE (xs.drop 207) : Nat)]) ∧ Words .u8 w' B (pN1 xs) ∧ Below W.heap.size W w' := fun h4 W hW => by
      have := refGetText_any (cutA A c 207) (c - 207) (xs.drop 207) (hx.drop _) (by omega) (by omega) (by omega) W (cutA_words hW hlc)
      rw [hdl] at this
      rw [show pN1 xs = getB (xs.drop 207) from if_pos h4]
      exact this
    have C2 : kdU xs = 4 → ∀ W, Words .u8 W A xs → Calls Tryz.prog 33 #[.slice (cutA A c (207 + getE (xs.drop 207))) (xs.length - (207 + getE (xs.drop 207))) (c - (207 + getE (xs.drop 207)))] W fun e w' => ∃ B d, e = .returned (.agg #[.int .u64 0, .slice B (pN2 xs).length d, .int .i64 (getE (xs.drop (207 + getE (xs.drop 207))) : Nat)]) ∧ Words .u8 w' B (pN2 xs) ∧ Below W.heap.size W w' := fun h4 W hW => by
      have hd2 : (xs.drop (207 + getE (xs.drop 207))).length = xs.length - (207 + getE (xs.drop 207)) := List.length_drop
      have := refGetText_any (cutA A c (207 + getE (xs.drop 207))) (c - (207 + getE (xs.drop 207))) (xs.drop (207 + getE (xs.drop 207))) (hx.drop _) (by omega) (by omega) (by omega) W (cutA_words hW hlc)
      rw [hd2] at this
      rw [show pN2 xs = getB (xs.drop (207 + getE (xs.drop 207))) from if_pos h4]
      exact this
    have n1 := pN1_le xs
    have n2 := pN2_le xs
    have hnl : kdU xs ≠ 4 → pN1 xs = [] ∧ pN2 xs = [] := fun h => ⟨if_neg h, if_neg h⟩
    have CR : ∀ W B1 d1 B2 d2, Calls Tryz.prog 22 #[.agg (spV (algU xs) (pF xs) (pAt xs : Nat) (pFl xs) (.slice B1 (pN1 xs).length d1) (.slice B2 (pN2 xs).length d2))] W fun e w' => e = .returned (.bool (right20 (kdU xs) (bkU xs) (pAt xs : Nat) (pFl xs) (pN1 xs).length (pN2 xs).length)) ∧ Below W.heap.size W w' := fun W B1 d1 B2 d2 =>
      refRight20_any (algU xs : Int) (pF xs) (pAt xs : Nat) (pFl xs) B1 (pN1 xs).length d1 B2 (pN2 xs).length d2 W (by omega) (by omega)
    have CK : ∀ W B1 d1 B2 d2, Words .u8 W B1 (pN1 xs) → Words .u8 W B2 (pN2 xs) → Calls Tryz.prog 34 #[.agg (spV (algU xs) (pF xs) (pAt xs : Nat) (pFl xs) (.slice B1 (pN1 xs).length d1) (.slice B2 (pN2 xs).length d2))] W fun e w' => ∃ A9 c9, e = .returned (.slice A9 (spgB (algU xs) (kdU xs) (pF xs) (pAt xs) (pFl xs) (pN1 xs) (pN2 xs)).length c9) ∧ Words .u8 w' A9 (spgB (algU xs) (kdU xs) (pF xs) (pAt xs) (pFl xs) (pN1 xs) (pN2 xs)) ∧ Below W.heap.size W w' := fun W B1 d1 B2 d2 w1 w2 =>
      (refSponge20_core (algU xs) ha256 (kdU xs) (pF xs) (pF_lt hx) (pAt xs) (pAt_lt hx) (pFl xs) B1 d1 (pN1 xs) B2 d2 (pN2 xs) (by omega) (by omega) W w1 w2 CKd).mono fun e w' q => by
        obtain ⟨A9, c9, rfl, -, q2, q3⟩ := q
        exact ⟨A9, c9, rfl, q2, q3⟩
    have hspl : (spgB (algU xs) (kdU xs) (pF xs) (pAt xs) (pFl xs) (pN1 xs) (pN2 xs)).length ≤ 1000000 := by
      rw [spgB_len, nameB_len, textN_length, textN_length]
      have := nb_le (8 * (pN1 xs).length)
      have := nb_le (8 * (pN2 xs).length)
      split <;> omega
    have CS : ∀ W A9 c9, Words .u8 W A9 (spgB (algU xs) (kdU xs) (pF xs) (pAt xs) (pFl xs) (pN1 xs) (pN2 xs)) → Words .u8 W A xs → Calls Tryz.prog 19 #[.slice A9 (spgB (algU xs) (kdU xs) (pF xs) (pAt xs) (pFl xs) (pN1 xs) (pN2 xs)).length c9, .slice A xs.length c] W fun e w' => e = .returned (.bool (sameB (spgB (algU xs) (kdU xs) (pF xs) (pAt xs) (pFl xs) (pN1 xs) (pN2 xs)) xs)) ∧ Below W.heap.size W w' := fun W A9 c9 h9 hW =>
      Cd.same_any _ _ (spgB_lt ha256 (pAt_lt hx) (pN1_lt hx) (pN2_lt hx) (by omega) (by omega)) hx hspl (by omega) W A9 c9 A c h9 hW
    have hres : isP xs = (!(decide (kdU xs = 4) && (decide (getE (xs.drop 207) = 0) || decide (getE (xs.drop (207 + getE (xs.drop 207))) = 0))) && (right20 (kdU xs) (bkU xs) (pAt xs : Nat) (pFl xs) (pN1 xs).length (pN2 xs).length && sameB (spgB (algU xs) (kdU xs) (pF xs) (pAt xs) (pFl xs) (pN1 xs) (pN2 xs)) xs)) := by
      have e0 : isP xs = (right20 (kdU xs) (bkU xs) (pAt xs : Nat) (pFl xs) (pN1 xs).length (pN2 xs).length && sameB (spgB (algU xs) (kdU xs) (pF xs) (pAt xs) (pFl xs) (pN1 xs) (pN2 xs)) xs) := by
        unfold isP sameB; rfl
      by_cases h4 : kdU xs = 4
      · cases hP : isP xs with
        | false => rw [← e0, hP, Bool.and_false]
        | true =>
          have t := (isP_spec hP).texts h4
          have p1 := getE_pos (xs.drop 207)
          have p2 := getE_pos (xs.drop (207 + getE (xs.drop 207)))
          rw [t.1, decide_eq_true_eq] at p1
          rw [t.2, decide_eq_true_eq] at p2
          rw [← e0, hP, decide_eq_false (show ¬ getE (xs.drop 207) = 0 by omega), decide_eq_false (show ¬ getE (xs.drop (207 + getE (xs.drop 207))) = 0 by omega)]
          simp
      · rw [decide_eq_false h4, ← e0]; rfl
    have := refSponge_core _ _ (isP xs) (algU xs) (kdU xs) xs.length (xs.getD 5 0) (pAt xs) (getE (xs.drop 207)) (getE (xs.drop (207 + getE (xs.drop 207)))) (pFl xs) (pF xs) b0 o c A xs (pN1 xs) (pN2 xs) _ w hA rfl hl hmax hlc hk2 (by omega) (pAt_lt hx) hres hnl hw h5 h6 rfl
      (fun B1 d1 B2 d2 => spV (algU xs) (pF xs) (pAt xs : Nat) (pFl xs) (.slice B1 (pN1 xs).length d1) (.slice B2 (pN2 xs).length d2)) (fun _ _ _ _ => rfl) CA0 CKd CO C1 C2 CR (fun _ => CK) (fun _ => CS)
    refine this.mono fun e w' k => ?_
    obtain ⟨v, rfl, k1, k2, k3⟩ := k
    refine ⟨v, rfl, ?_, k3⟩
    cases hP : isP xs with
    | true =>
      obtain ⟨B1, d1, B2, d2, rfl, w1, w2⟩ := k1 hP
      have e1 : v1 xs = pN1 xs := by unfold v1; rw [hP]; rfl
      have e2 : v2 xs = pN2 xs := by unfold v2; rw [hP]; rfl
      unfold GP
      rw [e1, e2]
      refine ⟨B1, d1, B2, d2, ?_, w1, w2, fun _ _ _ => Nat.zero_le _, fun _ _ _ => Nat.zero_le _⟩
      unfold vA vAt vFl
      rw [hP]
      exact spV_congr fun i _ => by unfold vF; rw [hP]; rfl
    | false =>
      rw [k2 hP]
      exact GP.nothing hP w'
end Go.Proofs.YtflgnhplbblokaaGreatDoor.Sn
end
