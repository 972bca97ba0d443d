/- Layer 21: a state of a sponge, read. | Layer 21: a state of a sponge, read: what bytes tell it, and which do not. | Layer 21: a state of a hash of blocks, read: what bytes tell it, and which do not. | Layer 21: what is thrown is caught: a state of a hash of blocks. | Layer 21: Block: the state whose snapshot the bytes are. | Layer 21: what is thrown is caught: a state of a sponge; Sponge. | Layer 21: Is; the examples. -/
import Derived.Test.YtflgnhplbblokaaGreatDoorBnf
import Derived.Test.YtflgnhplbblokaaGreatDoorBne
import Derived.Recover
import Derived.Laws.Pointers
import Derived.Test.YtflgnhplbblokaaGreatDoorBnd
section
namespace Go.Proofs.YtflgnhplbblokaaGreatDoor.Sn
open Go.RowKit Rw Cd Al Ln L64 Mk
set_option linter.unusedVariables false
set_option linter.unusedSimpArgs false
theorem words_rkeep {k : IntKind} {q : Nat} {W W' : World} {B : Option Addr} {xs : List Nat} (h : Words k W B xs) (hB : xs ≠ [] → ∀ a, B = some a → a.block ≠ q) (hk : RKeep q W W') : Words k W' B xs := fun i hi => by
  obtain ⟨g, o, e, hg, hc⟩ := h.block hi
  have hne : g ≠ q := hB (fun e => by rw [e] at hi; exact absurd hi (by simp)) ⟨g, o, none⟩ e
  refine ⟨g, o, e, ?_⟩
  rw [← hc]
  unfold World.cell?
  simp only [hk.blk g hg hne]
def zS : Array Value := spV 0 (fun _ => 0) 0 false (.slice none 0 0) (.slice none 0 0)
section
attribute [local go_sem ↓] loadSp storeSU zeroSU bsSU
attribute [local go_sem] run_bsS3
set_option maxRecDepth 100000 in
set_option maxHeartbeats 1000000 in
theorem readSponge_named (ok : Bool) (a kd p n1 n2 m1 m2 : Nat) (fl : Bool) (f : Nat → Nat) (ys x1 x2 : List Nat) (s : Value) (w : World) (h4 : ((kd : Int) == 4) = true) (U : Option Addr → Nat → Option Addr → Nat → Array Value) (hU : ∀ B1 d1 B2 d2, U B1 d1 B2 d2 = spV a f (p : Nat) fl (.slice B1 n1 d1) (.slice B2 n2 d2))
    (CB : Calls Tryz.prog 49 #[s] (w.alloc (.cells zS 38)) fun e w' => ∃ q A' c', e = .returned (.tuple #[.pointer (some ⟨q, 0, none⟩), .int .i64 (a : Nat), .bool fl]) ∧ RD q A' c' ys w' ∧ (w.alloc (.cells zS 38)).heap.size ≤ q ∧ Below (w.alloc (.cells zS 38)).heap.size (w.alloc (.cells zS 38)) w')
    (CN : ∀ q S u W, BI w w.heap.size 30 q S zS ys u W → Calls Tryz.prog 58 #[.pointer (some ⟨q, 0, none⟩)] W fun e w' => e = .returned (.int .i64 (p : Nat)) ∧ BI w w.heap.size 30 q S zS (ys.drop 1) u w')
    (CL : ∀ q S u W, BI w w.heap.size 30 q S zS (ys.drop 1) u W → Calls Tryz.prog 59 #[.pointer (some ⟨q, 0, none⟩)] W fun e w' => e = .returned (.agg (uTab 25 f)) ∧ BI w w.heap.size 30 q S zS ((ys.drop 1).drop 200) u w')
    (CK : ∀ W, Below w.heap.size w W → Calls Tryz.prog 36 #[.int .i64 (a : Nat)] W fun e w' => e = .returned (.int .i64 (kd : Nat)) ∧ Below W.heap.size W w')
    (C1 : ∀ q S u W, BI w w.heap.size 30 q S zS ((ys.drop 1).drop 200) u W → Calls Tryz.prog 60 #[.pointer (some ⟨q, 0, none⟩)] W fun e w' => ∃ B d, e = .returned (.slice B n1 d) ∧ Words .u8 w' B x1 ∧ (x1 ≠ [] → ∀ a, B = some a → W.heap.size ≤ a.block) ∧ RKeep q W w' ∧ BI w w.heap.size 30 q S zS (((ys.drop 1).drop 200).drop m1) u w')
    (C2 : ∀ q S u W, BI w w.heap.size 30 q S zS (((ys.drop 1).drop 200).drop m1) u W → Calls Tryz.prog 60 #[.pointer (some ⟨q, 0, none⟩)] W fun e w' => ∃ B d, e = .returned (.slice B n2 d) ∧ Words .u8 w' B x2 ∧ (x2 ≠ [] → ∀ a, B = some a → W.heap.size ≤ a.block) ∧ RKeep q W w' ∧ BI w w.heap.size 30 q S zS ((((ys.drop 1).drop 200).drop m1).drop m2) u w')
    (HS : ∀ W B1 d1 B2 d2, Below w.heap.size w W → Words .u8 W B1 x1 → Words .u8 W B2 x2 → Calls Tryz.prog 20 #[.agg (U B1 d1 B2 d2)] W fun e w' => ∃ v er, e = .returned (.tuple #[v, .int .i64 er]) ∧ Below W.heap.size W w' ∧
      Calls Tryz.prog 56 #[v, s] w' fun e w'' => e = (if ok then .returned (.tuple #[]) else .panicked thrown) ∧ w' = w'') :
    Calls Tryz.prog 27 #[s] w fun e w' => (if ok then ∃ B1 B2, (∃ d1 d2, e = .returned (.agg (U B1 d1 B2 d2))) ∧ Words .u8 w' B1 x1 ∧ Words .u8 w' B2 x2 ∧ (x1 ≠ [] → ∀ a, B1 = some a → w.heap.size ≤ a.block) ∧ (x2 ≠ [] → ∀ a, B2 = some a → w.heap.size ≤ a.block) else e = .panicked thrown) ∧ Below w.heap.size w w' := by
  have CB := Lib.hid CB
  have CN := Lib.hid CN
  have CL := Lib.hid CL
  have CK := Lib.hid CK
  have C1 := Lib.hid C1
  have C2 := Lib.hid C2
  have HS := Lib.hid HS
  have HZ := Lib.hid (show zS = spV 0 (fun _ => 0) 0 false (.slice none 0 0) (.slice none 0 0) from rfl)
  rw [HZ.out] at CB
  have H0 := Lib.hid (Hold.new w (spV 0 (fun _ => 0) 0 false (.slice none 0 0) (.slice none 0 0)) 38 30 spV_size)
  have B0 := Lib.hid ((Below.refl w.heap.size w).alloc (Nat.le_refl _) (.cells (spV 0 (fun _ => 0) 0 false (.slice none 0 0) (.slice none 0 0)) 38))
  have HUS : Hid (∀ B1 d1 B2 d2, (U B1 d1 B2 d2).size = 30) := fun _ _ _ _ => by rw [hU]; exact spV_size
  have HUO : Hid (∀ B1 d1 B2 d2, OneCells (U B1 d1 B2 d2)) := fun _ _ _ _ => by rw [hU]; exact spV_ones
  have HU := Lib.hid hU
  clear hU
  cases ok with
  | true =>
    go_enter Tryz.func27, Tryz.ntmps27
    go_wp2_with (first
        | (go_at_call 49
           (with_reducible refine CB.out.mono ?_)
           rintro e u1 ⟨q, A', c', rfl, k1, k2, k3⟩
           have hq : w.heap.size < q := by simp at k2; omega
           have HQ := Lib.hid hq
           have hb := B0.out.trans (k3.mono B0.out.size)
           have s1 := run_storeSU (Hold.new u1 (spV 0 (fun _ => 0) 0 false (.slice none 0 0) (.slice none 0 0)) 38 30 spV_size).ok (c' := (spV a (fun _ => 0) 0 fl (.slice none 0 0) (.slice none 0 0))) spV_size spV_ones
           have F1 : Hid (BI w w.heap.size 30 q u1.heap.size zS ys (spV a (fun _ => 0) 0 fl (.slice none 0 0) (.slice none 0 0)) (u1.alloc (.cells (spV a (fun _ => 0) 0 fl (.slice none 0 0) (.slice none 0 0)) 38))) := ⟨⟨_, _, k1.alloc _⟩, Hold.new u1 _ _ 30 spV_size, ((H0.out.call k3).past _), hb.alloc hb.size _, hq, k1.hold.lt⟩
           clear k1 k2 k3 hq hb)
        | (go_at_call 58
           (with_reducible refine (CN.out _ _ _ _ F1.out).mono ?_)
           rintro e u2 ⟨rfl, k1⟩
           have q1 := k1.cell.setCell 26 (.int .i64 (p : Nat))
           rw [spV_put] at q1
           have q2 := k1.cell.frozen 26
           have q3 : u2.cell? ⟨u1.heap.size, 26, none⟩ = some (.int .i64 0) := k1.cell.cell spV_26
           have F2 := Lib.hid (k1.set (spV a (fun _ => 0) (p : Nat) fl (.slice none 0 0) (.slice none 0 0)) spV_size)
           clear k1 s1)
        | (go_at_call 59
           (with_reducible refine (CL.out _ _ _ _ F2.out).mono ?_)
           rintro e u3 ⟨rfl, k1⟩
           have s2 := run_storeL1 k1.cell f
           have k2 := k1.set (spV a f (p : Nat) fl (.slice none 0 0) (.slice none 0 0)) spV_size
           have F3 := Lib.hid k2
           have p0 := k2.cell.load (T := 38) Tryz.underlying38 rfl (by kernel_rfl)
           clear k1 k2 q1 q2 q3)
        | (go_at_call 36
           (with_reducible refine (CK.out _ F3.out.below).mono ?_)
           rintro e u4 ⟨rfl, hb⟩
           have k1 := F3.out.call hb
           have F4 := Lib.hid k1
           clear k1 hb p0)
        | (go_at_call 60
           (with_reducible refine (C1.out _ _ _ _ F4.out).mono ?_)
           rintro e u5 ⟨B1, d1, rfl, hw1, hn1, hk1, k1⟩
           have hnS : x1 ≠ [] → ∀ a, B1 = some a → u1.heap.size < a.block := fun h1 a h2 => Nat.lt_of_lt_of_le F4.out.cell.lt (hn1 h1 a h2)
           have HN1 := Lib.hid hnS
           have q4 := k1.cell.setCell 28 (.slice B1 n1 d1)
           rw [spV_put1] at q4
           have q5 := k1.cell.frozen 28
           have q6 : u5.cell? ⟨u1.heap.size, 28, none⟩ = some (.slice none 0 0) := k1.cell.cell spV_28
           have W5 := Lib.hid (words_setRow hw1 hnS (spV a f (p : Nat) fl (.slice B1 n1 d1) (.slice none 0 0)))
           have F5 := Lib.hid (k1.set (spV a f (p : Nat) fl (.slice B1 n1 d1) (.slice none 0 0)) spV_size)
           clear k1 hnS hw1 hn1 hk1)
        | (go_at_call 60
           (with_reducible refine (C2.out _ _ _ _ F5.out).mono ?_)
           rintro e u6 ⟨B2, d2, rfl, hw2, hn2, hk2, k1⟩
           have hnS : x2 ≠ [] → ∀ a, B2 = some a → u1.heap.size < a.block := fun h1 a h2 => Nat.lt_of_lt_of_le F5.out.cell.lt (hn2 h1 a h2)
           have HN2 := Lib.hid hnS
           have q7 := k1.cell.setCell 29 (.slice B2 n2 d2)
           rw [spV_put2] at q7
           have q8 := k1.cell.frozen 29
           have q9 : u6.cell? ⟨u1.heap.size, 29, none⟩ = some (.slice none 0 0) := k1.cell.cell spV_29
           have k2 := k1.set (spV a f (p : Nat) fl (.slice B1 n1 d1) (.slice B2 n2 d2)) spV_size
           rw [← HU.out] at k2 q7
           have p2 := k2.cell.load (T := 38) Tryz.underlying38 rfl (by kernel_rfl)
           have W6 := Lib.hid (words_setRow (words_rkeep W5.out (fun h1 a h2 => Nat.ne_of_gt (Nat.lt_trans F5.out.qs (HN1.out h1 a h2))) hk2) HN1.out (U B1 d1 B2 d2))
           have W7 := Lib.hid (words_setRow hw2 hnS (U B1 d1 B2 d2))
           have F6 := Lib.hid k2
           clear k1 k2 hnS hw2 hn2 hk2 q4 q5 q6)
        | (go_at_call 20
           (with_reducible refine (HS.out _ _ _ _ _ F6.out.below W6.out W7.out).mono ?_)
           rintro e u8 ⟨v, er, rfl, hb, hh⟩
           have k1 := F6.out.call hb
           have HO := Lib.hid hh
           have W8 := Lib.hid (W6.out.below hb (Nat.le_refl _))
           have W9 := Lib.hid (W7.out.below hb (Nat.le_refl _))
           have p3 := k1.cell.load (T := 38) Tryz.underlying38 rfl (by kernel_rfl)
           have s5 := run_storeSU k1.res.ok (c' := (U B1 d1 B2 d2)) (HUS.out _ _ _ _) (HUO.out _ _ _ _)
           have HF := Lib.hid (k1.res.set (U B1 d1 B2 d2) (HUS.out _ _ _ _))
           have HB9 := Lib.hid (below_setRow k1.below (Nat.le_refl _) (U B1 d1 B2 d2))
           have HRS := Lib.hid (show w.heap.size < u1.heap.size from Nat.lt_trans k1.rq k1.qs)
           clear k1 hb hh p2 q7 q8 q9)
        | (go_at_call 56
           (with_reducible refine HO.out.mono ?_)
           rintro e u9 ⟨he, rfl⟩
           obtain rfl := he))
    refine al_ret (p := 2) rfl rfl HF.out.ok HF.out.at' Tryz.underlying38 rfl (by kernel_rfl) rfl ⟨?_, HB9.out⟩
    exact ⟨B1, B2, ⟨⟨d1, d2, rfl⟩, words_setRow W8.out (fun h1 a h2 => Nat.lt_trans HRS.out (HN1.out h1 a h2)) _, words_setRow W9.out (fun h1 a h2 => Nat.lt_trans HRS.out (HN2.out h1 a h2)) _, (fun h1 a h2 => Nat.le_of_lt (Nat.lt_trans HRS.out (HN1.out h1 a h2))), fun h1 a h2 => Nat.le_of_lt (Nat.lt_trans HRS.out (HN2.out h1 a h2))⟩⟩
  | false =>
    go_enter Tryz.func27, Tryz.ntmps27
    go_wp2_with (first
        | (go_at_call 49
           (with_reducible refine CB.out.mono ?_)
           rintro e u1 ⟨q, A', c', rfl, k1, k2, k3⟩
           have hq : w.heap.size < q := by simp at k2; omega
           have HQ := Lib.hid hq
           have hb := B0.out.trans (k3.mono B0.out.size)
           have s1 := run_storeSU (Hold.new u1 (spV 0 (fun _ => 0) 0 false (.slice none 0 0) (.slice none 0 0)) 38 30 spV_size).ok (c' := (spV a (fun _ => 0) 0 fl (.slice none 0 0) (.slice none 0 0))) spV_size spV_ones
           have F1 : Hid (BI w w.heap.size 30 q u1.heap.size zS ys (spV a (fun _ => 0) 0 fl (.slice none 0 0) (.slice none 0 0)) (u1.alloc (.cells (spV a (fun _ => 0) 0 fl (.slice none 0 0) (.slice none 0 0)) 38))) := ⟨⟨_, _, k1.alloc _⟩, Hold.new u1 _ _ 30 spV_size, ((H0.out.call k3).past _), hb.alloc hb.size _, hq, k1.hold.lt⟩
           clear k1 k2 k3 hq hb)
        | (go_at_call 58
           (with_reducible refine (CN.out _ _ _ _ F1.out).mono ?_)
           rintro e u2 ⟨rfl, k1⟩
           have q1 := k1.cell.setCell 26 (.int .i64 (p : Nat))
           rw [spV_put] at q1
           have q2 := k1.cell.frozen 26
           have q3 : u2.cell? ⟨u1.heap.size, 26, none⟩ = some (.int .i64 0) := k1.cell.cell spV_26
           have F2 := Lib.hid (k1.set (spV a (fun _ => 0) (p : Nat) fl (.slice none 0 0) (.slice none 0 0)) spV_size)
           clear k1 s1)
        | (go_at_call 59
           (with_reducible refine (CL.out _ _ _ _ F2.out).mono ?_)
           rintro e u3 ⟨rfl, k1⟩
           have s2 := run_storeL1 k1.cell f
           have k2 := k1.set (spV a f (p : Nat) fl (.slice none 0 0) (.slice none 0 0)) spV_size
           have F3 := Lib.hid k2
           have p0 := k2.cell.load (T := 38) Tryz.underlying38 rfl (by kernel_rfl)
           clear k1 k2 q1 q2 q3)
        | (go_at_call 36
           (with_reducible refine (CK.out _ F3.out.below).mono ?_)
           rintro e u4 ⟨rfl, hb⟩
           have k1 := F3.out.call hb
           have F4 := Lib.hid k1
           clear k1 hb p0)
        | (go_at_call 60
           (with_reducible refine (C1.out _ _ _ _ F4.out).mono ?_)
           rintro e u5 ⟨B1, d1, rfl, hw1, hn1, hk1, k1⟩
           have hnS : x1 ≠ [] → ∀ a, B1 = some a → u1.heap.size < a.block := fun h1 a h2 => Nat.lt_of_lt_of_le F4.out.cell.lt (hn1 h1 a h2)
           have HN1 := Lib.hid hnS
           have q4 := k1.cell.setCell 28 (.slice B1 n1 d1)
           rw [spV_put1] at q4
           have q5 := k1.cell.frozen 28
           have q6 : u5.cell? ⟨u1.heap.size, 28, none⟩ = some (.slice none 0 0) := k1.cell.cell spV_28
           have W5 := Lib.hid (words_setRow hw1 hnS (spV a f (p : Nat) fl (.slice B1 n1 d1) (.slice none 0 0)))
           have F5 := Lib.hid (k1.set (spV a f (p : Nat) fl (.slice B1 n1 d1) (.slice none 0 0)) spV_size)
           clear k1 hnS hw1 hn1 hk1)
        | (go_at_call 60
           (with_reducible refine (C2.out _ _ _ _ F5.out).mono ?_)
           rintro e u6 ⟨B2, d2, rfl, hw2, hn2, hk2, k1⟩
           have hnS : x2 ≠ [] → ∀ a, B2 = some a → u1.heap.size < a.block := fun h1 a h2 => Nat.lt_of_lt_of_le F5.out.cell.lt (hn2 h1 a h2)
           have HN2 := Lib.hid hnS
           have q7 := k1.cell.setCell 29 (.slice B2 n2 d2)
           rw [spV_put2] at q7
           have q8 := k1.cell.frozen 29
           have q9 : u6.cell? ⟨u1.heap.size, 29, none⟩ = some (.slice none 0 0) := k1.cell.cell spV_29
           have k2 := k1.set (spV a f (p : Nat) fl (.slice B1 n1 d1) (.slice B2 n2 d2)) spV_size
           rw [← HU.out] at k2 q7
           have p2 := k2.cell.load (T := 38) Tryz.underlying38 rfl (by kernel_rfl)
           have W6 := Lib.hid (words_setRow (words_rkeep W5.out (fun h1 a h2 => Nat.ne_of_gt (Nat.lt_trans F5.out.qs (HN1.out h1 a h2))) hk2) HN1.out (U B1 d1 B2 d2))
           have W7 := Lib.hid (words_setRow hw2 hnS (U B1 d1 B2 d2))
           have F6 := Lib.hid k2
           clear k1 k2 hnS hw2 hn2 hk2 q4 q5 q6)
        | (go_at_call 20
           (with_reducible refine (HS.out _ _ _ _ _ F6.out.below W6.out W7.out).mono ?_)
           rintro e u8 ⟨v, er, rfl, hb, hh⟩
           have k1 := F6.out.call hb
           have HO := Lib.hid hh
           have HB9 := Lib.hid k1.below
           clear k1 hb hh p2 q7 q8 q9)
        | (go_at_call 56
           (with_reducible refine HO.out.mono ?_)
           rintro e u9 ⟨he, rfl⟩
           obtain rfl := he))
    exact ⟨rfl, rfl, HB9.out⟩
set_option maxRecDepth 100000 in
set_option maxHeartbeats 1000000 in
theorem readSponge_plain (ok : Bool) (a kd p n1 n2 m1 m2 : Nat) (fl : Bool) (f : Nat → Nat) (ys x1 x2 : List Nat) (s : Value) (w : World) (h4 : ((kd : Int) == 4) = false) (U : Array Value) (hU : U = spV a f (p : Nat) fl (.slice none 0 0) (.slice none 0 0))
    (CB : Calls Tryz.prog 49 #[s] (w.alloc (.cells zS 38)) fun e w' => ∃ q A' c', e = .returned (.tuple #[.pointer (some ⟨q, 0, none⟩), .int .i64 (a : Nat), .bool fl]) ∧ RD q A' c' ys w' ∧ (w.alloc (.cells zS 38)).heap.size ≤ q ∧ Below (w.alloc (.cells zS 38)).heap.size (w.alloc (.cells zS 38)) w')
    (CN : ∀ q S u W, BI w w.heap.size 30 q S zS ys u W → Calls Tryz.prog 58 #[.pointer (some ⟨q, 0, none⟩)] W fun e w' => e = .returned (.int .i64 (p : Nat)) ∧ BI w w.heap.size 30 q S zS (ys.drop 1) u w')
    (CL : ∀ q S u W, BI w w.heap.size 30 q S zS (ys.drop 1) u W → Calls Tryz.prog 59 #[.pointer (some ⟨q, 0, none⟩)] W fun e w' => e = .returned (.agg (uTab 25 f)) ∧ BI w w.heap.size 30 q S zS ((ys.drop 1).drop 200) u w')
    (CK : ∀ W, Below w.heap.size w W → Calls Tryz.prog 36 #[.int .i64 (a : Nat)] W fun e w' => e = .returned (.int .i64 (kd : Nat)) ∧ Below W.heap.size W w')
    (HS : ∀ W, Below w.heap.size w W → Calls Tryz.prog 20 #[.agg U] W fun e w' => ∃ v er, e = .returned (.tuple #[v, .int .i64 er]) ∧ Below W.heap.size W w' ∧
      Calls Tryz.prog 56 #[v, s] w' fun e w'' => e = (if ok then .returned (.tuple #[]) else .panicked thrown) ∧ w' = w'') :
    Calls Tryz.prog 27 #[s] w fun e w' => e = (if ok then .returned (.agg U) else .panicked thrown) ∧ Below w.heap.size w w' := by
  have CB := Lib.hid CB
  have CN := Lib.hid CN
  have CL := Lib.hid CL
  have CK := Lib.hid CK
  have HS := Lib.hid HS
  have HZ := Lib.hid (show zS = spV 0 (fun _ => 0) 0 false (.slice none 0 0) (.slice none 0 0) from rfl)
  rw [HZ.out] at CB
  have H0 := Lib.hid (Hold.new w (spV 0 (fun _ => 0) 0 false (.slice none 0 0) (.slice none 0 0)) 38 30 spV_size)
  have B0 := Lib.hid ((Below.refl w.heap.size w).alloc (Nat.le_refl _) (.cells (spV 0 (fun _ => 0) 0 false (.slice none 0 0) (.slice none 0 0)) 38))
  have HUS : Hid (U.size = 30) := by rw [hU]; exact spV_size
  have HUO : Hid (OneCells U) := by rw [hU]; exact spV_ones
  have HU := Lib.hid hU
  clear hU
  cases ok with
  | true =>
    go_enter Tryz.func27, Tryz.ntmps27
    go_wp2_with (first
        | (go_at_call 49
           (with_reducible refine CB.out.mono ?_)
           rintro e u1 ⟨q, A', c', rfl, k1, k2, k3⟩
           have hq : w.heap.size < q := by simp at k2; omega
           have HQ := Lib.hid hq
           have hb := B0.out.trans (k3.mono B0.out.size)
           have s1 := run_storeSU (Hold.new u1 (spV 0 (fun _ => 0) 0 false (.slice none 0 0) (.slice none 0 0)) 38 30 spV_size).ok (c' := (spV a (fun _ => 0) 0 fl (.slice none 0 0) (.slice none 0 0))) spV_size spV_ones
           have F1 : Hid (BI w w.heap.size 30 q u1.heap.size zS ys (spV a (fun _ => 0) 0 fl (.slice none 0 0) (.slice none 0 0)) (u1.alloc (.cells (spV a (fun _ => 0) 0 fl (.slice none 0 0) (.slice none 0 0)) 38))) := ⟨⟨_, _, k1.alloc _⟩, Hold.new u1 _ _ 30 spV_size, ((H0.out.call k3).past _), hb.alloc hb.size _, hq, k1.hold.lt⟩
           clear k1 k2 k3 hq hb)
        | (go_at_call 58
           (with_reducible refine (CN.out _ _ _ _ F1.out).mono ?_)
           rintro e u2 ⟨rfl, k1⟩
           have q1 := k1.cell.setCell 26 (.int .i64 (p : Nat))
           rw [spV_put] at q1
           have q2 := k1.cell.frozen 26
           have q3 : u2.cell? ⟨u1.heap.size, 26, none⟩ = some (.int .i64 0) := k1.cell.cell spV_26
           have F2 := Lib.hid (k1.set (spV a (fun _ => 0) (p : Nat) fl (.slice none 0 0) (.slice none 0 0)) spV_size)
           clear k1 s1)
        | (go_at_call 59
           (with_reducible refine (CL.out _ _ _ _ F2.out).mono ?_)
           rintro e u3 ⟨rfl, k1⟩
           have s2 := run_storeL1 k1.cell f
           have k2 := k1.set (spV a f (p : Nat) fl (.slice none 0 0) (.slice none 0 0)) spV_size
           have F3 := Lib.hid k2
           have p0 := k2.cell.load (T := 38) Tryz.underlying38 rfl (by kernel_rfl)
           clear k1 k2 q1 q2 q3)
        | (go_at_call 36
           (with_reducible refine (CK.out _ F3.out.below).mono ?_)
           rintro e u4 ⟨rfl, hb⟩
           have k1 := F3.out.call hb
           rw [← HU.out] at k1
           have F4 := Lib.hid k1
           have p1 := k1.cell.load (T := 38) Tryz.underlying38 rfl (by kernel_rfl)
           clear k1 hb p0)
        | (go_at_call 20
           (with_reducible refine (HS.out _ F4.out.below).mono ?_)
           rintro e u8 ⟨v, er, rfl, hb, hh⟩
           have k1 := F4.out.call hb
           have HO := Lib.hid hh
           have p3 := k1.cell.load (T := 38) Tryz.underlying38 rfl (by kernel_rfl)
           have s5 := run_storeSU k1.res.ok (c' := U) HUS.out HUO.out
           have HF := Lib.hid (k1.res.set U HUS.out)
           have HB9 := Lib.hid (below_setRow k1.below (Nat.le_refl _) U)
           have HRS := Lib.hid (show w.heap.size < u1.heap.size from Nat.lt_trans k1.rq k1.qs)
           clear k1 hb hh p1)
        | (go_at_call 56
           (with_reducible refine HO.out.mono ?_)
           rintro e u9 ⟨he, rfl⟩
           obtain rfl := he))
    exact al_ret (p := 2) rfl rfl HF.out.ok HF.out.at' Tryz.underlying38 rfl (by kernel_rfl) rfl ⟨rfl, HB9.out⟩
  | false =>
    go_enter Tryz.func27, Tryz.ntmps27
    go_wp2_with (first
        | (go_at_call 49
           (with_reducible refine CB.out.mono ?_)
           rintro e u1 ⟨q, A', c', rfl, k1, k2, k3⟩
           have hq : w.heap.size < q := by simp at k2; omega
           have HQ := Lib.hid hq
           have hb := B0.out.trans (k3.mono B0.out.size)
           have s1 := run_storeSU (Hold.new u1 (spV 0 (fun _ => 0) 0 false (.slice none 0 0) (.slice none 0 0)) 38 30 spV_size).ok (c' := (spV a (fun _ => 0) 0 fl (.slice none 0 0) (.slice none 0 0))) spV_size spV_ones
           have F1 : Hid (BI w w.heap.size 30 q u1.heap.size zS ys (spV a (fun _ => 0) 0 fl (.slice none 0 0) (.slice none 0 0)) (u1.alloc (.cells (spV a (fun _ => 0) 0 fl (.slice none 0 0) (.slice none 0 0)) 38))) := ⟨⟨_, _, k1.alloc _⟩, Hold.new u1 _ _ 30 spV_size, ((H0.out.call k3).past _), hb.alloc hb.size _, hq, k1.hold.lt⟩
           clear k1 k2 k3 hq hb)
        | (go_at_call 58
           (with_reducible refine (CN.out _ _ _ _ F1.out).mono ?_)
           rintro e u2 ⟨rfl, k1⟩
           have q1 := k1.cell.setCell 26 (.int .i64 (p : Nat))
           rw [spV_put] at q1
           have q2 := k1.cell.frozen 26
           have q3 : u2.cell? ⟨u1.heap.size, 26, none⟩ = some (.int .i64 0) := k1.cell.cell spV_26
           have F2 := Lib.hid (k1.set (spV a (fun _ => 0) (p : Nat) fl (.slice none 0 0) (.slice none 0 0)) spV_size)
           clear k1 s1)
        | (go_at_call 59
           (with_reducible refine (CL.out _ _ _ _ F2.out).mono ?_)
           rintro e u3 ⟨rfl, k1⟩
           have s2 := run_storeL1 k1.cell f
           have k2 := k1.set (spV a f (p : Nat) fl (.slice none 0 0) (.slice none 0 0)) spV_size
           have F3 := Lib.hid k2
           have p0 := k2.cell.load (T := 38) Tryz.underlying38 rfl (by kernel_rfl)
           clear k1 k2 q1 q2 q3)
        | (go_at_call 36
           (with_reducible refine (CK.out _ F3.out.below).mono ?_)
           rintro e u4 ⟨rfl, hb⟩
           have k1 := F3.out.call hb
           rw [← HU.out] at k1
           have F4 := Lib.hid k1
           have p1 := k1.cell.load (T := 38) Tryz.underlying38 rfl (by kernel_rfl)
           clear k1 hb p0)
        | (go_at_call 20
           (with_reducible refine (HS.out _ F4.out.below).mono ?_)
           rintro e u8 ⟨v, er, rfl, hb, hh⟩
           have k1 := F4.out.call hb
           have HO := Lib.hid hh
           have HB9 := Lib.hid k1.below
           clear k1 hb hh p1)
        | (go_at_call 56
           (with_reducible refine HO.out.mono ?_)
           rintro e u9 ⟨he, rfl⟩
           obtain rfl := he))
    exact ⟨rfl, rfl, HB9.out⟩
set_option maxRecDepth 100000 in
set_option maxHeartbeats 1000000 in
theorem readSponge_begun (a kd p n1 n2 m1 m2 : Nat) (fl : Bool) (f : Nat → Nat) (ys x1 x2 : List Nat) (s : Value) (w : World)
    (CB : Calls Tryz.prog 49 #[s] (w.alloc (.cells zS 38)) fun e w' => e = .panicked thrown ∧ Below (w.alloc (.cells zS 38)).heap.size (w.alloc (.cells zS 38)) w') :
    Calls Tryz.prog 27 #[s] w fun e w' => e = .panicked thrown ∧ Below w.heap.size w w' := by
  have CB := Lib.hid CB
  have HZ := Lib.hid (show zS = spV 0 (fun _ => 0) 0 false (.slice none 0 0) (.slice none 0 0) from rfl)
  rw [HZ.out] at CB
  have H0 := Lib.hid (Hold.new w (spV 0 (fun _ => 0) 0 false (.slice none 0 0) (.slice none 0 0)) 38 30 spV_size)
  have B0 := Lib.hid ((Below.refl w.heap.size w).alloc (Nat.le_refl _) (.cells (spV 0 (fun _ => 0) 0 false (.slice none 0 0) (.slice none 0 0)) 38))
  go_enter Tryz.func27, Tryz.ntmps27
  go_wp2_with (first
    | (go_at_call 49
       (with_reducible refine CB.out.mono ?_)
       rintro e u9 ⟨rfl, hb⟩
       have HB9 := Lib.hid (B0.out.trans (hb.mono B0.out.size))
       clear hb))
  exact ⟨rfl, rfl, HB9.out⟩
set_option maxRecDepth 100000 in
set_option maxHeartbeats 1000000 in
theorem readSponge_number (a kd p n1 n2 m1 m2 : Nat) (fl : Bool) (f : Nat → Nat) (ys x1 x2 : List Nat) (s : Value) (w : World)
    (CB : Calls Tryz.prog 49 #[s] (w.alloc (.cells zS 38)) fun e w' => ∃ q A' c', e = .returned (.tuple #[.pointer (some ⟨q, 0, none⟩), .int .i64 (a : Nat), .bool fl]) ∧ RD q A' c' ys w' ∧ (w.alloc (.cells zS 38)).heap.size ≤ q ∧ Below (w.alloc (.cells zS 38)).heap.size (w.alloc (.cells zS 38)) w')
    (CN : ∀ q S u W, BI w w.heap.size 30 q S zS ys u W → Calls Tryz.prog 58 #[.pointer (some ⟨q, 0, none⟩)] W fun e w' => e = .panicked thrown ∧ Below w.heap.size w w') :
    Calls Tryz.prog 27 #[s] w fun e w' => e = .panicked thrown ∧ Below w.heap.size w w' := by
  have CB := Lib.hid CB
  have CN := Lib.hid CN
  have HZ := Lib.hid (show zS = spV 0 (fun _ => 0) 0 false (.slice none 0 0) (.slice none 0 0) from rfl)
  rw [HZ.out] at CB
  have H0 := Lib.hid (Hold.new w (spV 0 (fun _ => 0) 0 false (.slice none 0 0) (.slice none 0 0)) 38 30 spV_size)
  have B0 := Lib.hid ((Below.refl w.heap.size w).alloc (Nat.le_refl _) (.cells (spV 0 (fun _ => 0) 0 false (.slice none 0 0) (.slice none 0 0)) 38))
  go_enter Tryz.func27, Tryz.ntmps27
  go_wp2_with (first
    | (go_at_call 49
       (with_reducible refine CB.out.mono ?_)
       rintro e u1 ⟨q, A', c', rfl, k1, k2, k3⟩
       have hq : w.heap.size < q := by simp at k2; omega
       have HQ := Lib.hid hq
       have hb := B0.out.trans (k3.mono B0.out.size)
       have s1 := run_storeSU (Hold.new u1 (spV 0 (fun _ => 0) 0 false (.slice none 0 0) (.slice none 0 0)) 38 30 spV_size).ok (c' := (spV a (fun _ => 0) 0 fl (.slice none 0 0) (.slice none 0 0))) spV_size spV_ones
       have F1 : Hid (BI w w.heap.size 30 q u1.heap.size zS ys (spV a (fun _ => 0) 0 fl (.slice none 0 0) (.slice none 0 0)) (u1.alloc (.cells (spV a (fun _ => 0) 0 fl (.slice none 0 0) (.slice none 0 0)) 38))) := ⟨⟨_, _, k1.alloc _⟩, Hold.new u1 _ _ 30 spV_size, ((H0.out.call k3).past _), hb.alloc hb.size _, hq, k1.hold.lt⟩
       clear k1 k2 k3 hq hb)
    | (go_at_call 58
       (with_reducible refine (CN.out _ _ _ _ F1.out).mono ?_)
       rintro e u9 ⟨rfl, hb⟩
       have HB9 := Lib.hid hb
       clear hb))
  exact ⟨rfl, rfl, HB9.out⟩
set_option maxRecDepth 100000 in
set_option maxHeartbeats 1000000 in
theorem readSponge_lanes (a kd p n1 n2 m1 m2 : Nat) (fl : Bool) (f : Nat → Nat) (ys x1 x2 : List Nat) (s : Value) (w : World)
    (CB : Calls Tryz.prog 49 #[s] (w.alloc (.cells zS 38)) fun e w' => ∃ q A' c', e = .returned (.tuple #[.pointer (some ⟨q, 0, none⟩), .int .i64 (a : Nat), .bool fl]) ∧ RD q A' c' ys w' ∧ (w.alloc (.cells zS 38)).heap.size ≤ q ∧ Below (w.alloc (.cells zS 38)).heap.size (w.alloc (.cells zS 38)) w')
    (CN : ∀ q S u W, BI w w.heap.size 30 q S zS ys u W → Calls Tryz.prog 58 #[.pointer (some ⟨q, 0, none⟩)] W fun e w' => e = .returned (.int .i64 (p : Nat)) ∧ BI w w.heap.size 30 q S zS (ys.drop 1) u w')
    (CL : ∀ q S u W, BI w w.heap.size 30 q S zS (ys.drop 1) u W → Calls Tryz.prog 59 #[.pointer (some ⟨q, 0, none⟩)] W fun e w' => e = .panicked thrown ∧ Below w.heap.size w w') :
    Calls Tryz.prog 27 #[s] w fun e w' => e = .panicked thrown ∧ Below w.heap.size w w' := by
  have CB := Lib.hid CB
  have CN := Lib.hid CN
  have CL := Lib.hid CL
  have HZ := Lib.hid (show zS = spV 0 (fun _ => 0) 0 false (.slice none 0 0) (.slice none 0 0) from rfl)
  rw [HZ.out] at CB
  have H0 := Lib.hid (Hold.new w (spV 0 (fun _ => 0) 0 false (.slice none 0 0) (.slice none 0 0)) 38 30 spV_size)
  have B0 := Lib.hid ((Below.refl w.heap.size w).alloc (Nat.le_refl _) (.cells (spV 0 (fun _ => 0) 0 false (.slice none 0 0) (.slice none 0 0)) 38))
  go_enter Tryz.func27, Tryz.ntmps27
  go_wp2_with (first
    | (go_at_call 49
       (with_reducible refine CB.out.mono ?_)
       rintro e u1 ⟨q, A', c', rfl, k1, k2, k3⟩
       have hq : w.heap.size < q := by simp at k2; omega
       have HQ := Lib.hid hq
       have hb := B0.out.trans (k3.mono B0.out.size)
       have s1 := run_storeSU (Hold.new u1 (spV 0 (fun _ => 0) 0 false (.slice none 0 0) (.slice none 0 0)) 38 30 spV_size).ok (c' := (spV a (fun _ => 0) 0 fl (.slice none 0 0) (.slice none 0 0))) spV_size spV_ones
       have F1 : Hid (BI w w.heap.size 30 q u1.heap.size zS ys (spV a (fun _ => 0) 0 fl (.slice none 0 0) (.slice none 0 0)) (u1.alloc (.cells (spV a (fun _ => 0) 0 fl (.slice none 0 0) (.slice none 0 0)) 38))) := ⟨⟨_, _, k1.alloc _⟩, Hold.new u1 _ _ 30 spV_size, ((H0.out.call k3).past _), hb.alloc hb.size _, hq, k1.hold.lt⟩
       clear k1 k2 k3 hq hb)
    | (go_at_call 58
       (with_reducible refine (CN.out _ _ _ _ F1.out).mono ?_)
       rintro e u2 ⟨rfl, k1⟩
       have q1 := k1.cell.setCell 26 (.int .i64 (p : Nat))
       rw [spV_put] at q1
       have q2 := k1.cell.frozen 26
       have q3 : u2.cell? ⟨u1.heap.size, 26, none⟩ = some (.int .i64 0) := k1.cell.cell spV_26
       have F2 := Lib.hid (k1.set (spV a (fun _ => 0) (p : Nat) fl (.slice none 0 0) (.slice none 0 0)) spV_size)
       clear k1 s1)
    | (go_at_call 59
       (with_reducible refine (CL.out _ _ _ _ F2.out).mono ?_)
       rintro e u9 ⟨rfl, hb⟩
       have HB9 := Lib.hid hb
       clear hb))
  exact ⟨rfl, rfl, HB9.out⟩
set_option maxRecDepth 100000 in
set_option maxHeartbeats 1000000 in
theorem readSponge_text1 (a kd p n1 n2 m1 m2 : Nat) (fl : Bool) (f : Nat → Nat) (ys x1 x2 : List Nat) (s : Value) (w : World) (h4 : ((kd : Int) == 4) = true)
    (CB : Calls Tryz.prog 49 #[s] (w.alloc (.cells zS 38)) fun e w' => ∃ q A' c', e = .returned (.tuple #[.pointer (some ⟨q, 0, none⟩), .int .i64 (a : Nat), .bool fl]) ∧ RD q A' c' ys w' ∧ (w.alloc (.cells zS 38)).heap.size ≤ q ∧ Below (w.alloc (.cells zS 38)).heap.size (w.alloc (.cells zS 38)) w')
    (CN : ∀ q S u W, BI w w.heap.size 30 q S zS ys u W → Calls Tryz.prog 58 #[.pointer (some ⟨q, 0, none⟩)] W fun e w' => e = .returned (.int .i64 (p : Nat)) ∧ BI w w.heap.size 30 q S zS (ys.drop 1) u w')
    (CL : ∀ q S u W, BI w w.heap.size 30 q S zS (ys.drop 1) u W → Calls Tryz.prog 59 #[.pointer (some ⟨q, 0, none⟩)] W fun e w' => e = .returned (.agg (uTab 25 f)) ∧ BI w w.heap.size 30 q S zS ((ys.drop 1).drop 200) u w')
    (CK : ∀ W, Below w.heap.size w W → Calls Tryz.prog 36 #[.int .i64 (a : Nat)] W fun e w' => e = .returned (.int .i64 (kd : Nat)) ∧ Below W.heap.size W w')
    (C1 : ∀ q S u W, BI w w.heap.size 30 q S zS ((ys.drop 1).drop 200) u W → Calls Tryz.prog 60 #[.pointer (some ⟨q, 0, none⟩)] W fun e w' => e = .panicked thrown ∧ Below w.heap.size w w') :
    Calls Tryz.prog 27 #[s] w fun e w' => e = .panicked thrown ∧ Below w.heap.size w w' := by
  have CB := Lib.hid CB
  have CN := Lib.hid CN
  have CL := Lib.hid CL
  have CK := Lib.hid CK
  have C1 := Lib.hid C1
  have HZ := Lib.hid (show zS = spV 0 (fun _ => 0) 0 false (.slice none 0 0) (.slice none 0 0) from rfl)
  rw [HZ.out] at CB
  have H0 := Lib.hid (Hold.new w (spV 0 (fun _ => 0) 0 false (.slice none 0 0) (.slice none 0 0)) 38 30 spV_size)
  have B0 := Lib.hid ((Below.refl w.heap.size w).alloc (Nat.le_refl _) (.cells (spV 0 (fun _ => 0) 0 false (.slice none 0 0) (.slice none 0 0)) 38))
  go_enter Tryz.func27, Tryz.ntmps27
  go_wp2_with (first
    | (go_at_call 49
       (with_reducible refine CB.out.mono ?_)
       rintro e u1 ⟨q, A', c', rfl, k1, k2, k3⟩
       have hq : w.heap.size < q := by simp at k2; omega
       have HQ := Lib.hid hq
       have hb := B0.out.trans (k3.mono B0.out.size)
       have s1 := run_storeSU (Hold.new u1 (spV 0 (fun _ => 0) 0 false (.slice none 0 0) (.slice none 0 0)) 38 30 spV_size).ok (c' := (spV a (fun _ => 0) 0 fl (.slice none 0 0) (.slice none 0 0))) spV_size spV_ones
       have F1 : Hid (BI w w.heap.size 30 q u1.heap.size zS ys (spV a (fun _ => 0) 0 fl (.slice none 0 0) (.slice none 0 0)) (u1.alloc (.cells (spV a (fun _ => 0) 0 fl (.slice none 0 0) (.slice none 0 0)) 38))) := ⟨⟨_, _, k1.alloc _⟩, Hold.new u1 _ _ 30 spV_size, ((H0.out.call k3).past _), hb.alloc hb.size _, hq, k1.hold.lt⟩
       clear k1 k2 k3 hq hb)
    | (go_at_call 58
       (with_reducible refine (CN.out _ _ _ _ F1.out).mono ?_)
       rintro e u2 ⟨rfl, k1⟩
       have q1 := k1.cell.setCell 26 (.int .i64 (p : Nat))
       rw [spV_put] at q1
       have q2 := k1.cell.frozen 26
       have q3 : u2.cell? ⟨u1.heap.size, 26, none⟩ = some (.int .i64 0) := k1.cell.cell spV_26
       have F2 := Lib.hid (k1.set (spV a (fun _ => 0) (p : Nat) fl (.slice none 0 0) (.slice none 0 0)) spV_size)
       clear k1 s1)
    | (go_at_call 59
       (with_reducible refine (CL.out _ _ _ _ F2.out).mono ?_)
       rintro e u3 ⟨rfl, k1⟩
       have s2 := run_storeL1 k1.cell f
       have k2 := k1.set (spV a f (p : Nat) fl (.slice none 0 0) (.slice none 0 0)) spV_size
       have F3 := Lib.hid k2
       have p0 := k2.cell.load (T := 38) Tryz.underlying38 rfl (by kernel_rfl)
       clear k1 k2 q1 q2 q3)
    | (go_at_call 36
       (with_reducible refine (CK.out _ F3.out.below).mono ?_)
       rintro e u4 ⟨rfl, hb⟩
       have k1 := F3.out.call hb
       have F4 := Lib.hid k1
       clear k1 hb p0)
    | (go_at_call 60
       (with_reducible refine (C1.out _ _ _ _ F4.out).mono ?_)
       rintro e u9 ⟨rfl, hb⟩
       have HB9 := Lib.hid hb
       clear hb))
  exact ⟨rfl, rfl, HB9.out⟩
set_option maxRecDepth 100000 in
set_option maxHeartbeats 1000000 in
theorem readSponge_text2 (a kd p n1 n2 m1 m2 : Nat) (fl : Bool) (f : Nat → Nat) (ys x1 x2 : List Nat) (s : Value) (w : World) (h4 : ((kd : Int) == 4) = true)
    (CB : Calls Tryz.prog 49 #[s] (w.alloc (.cells zS 38)) fun e w' => ∃ q A' c', e = .returned (.tuple #[.pointer (some ⟨q, 0, none⟩), .int .i64 (a : Nat), .bool fl]) ∧ RD q A' c' ys w' ∧ (w.alloc (.cells zS 38)).heap.size ≤ q ∧ Below (w.alloc (.cells zS 38)).heap.size (w.alloc (.cells zS 38)) w')
    (CN : ∀ q S u W, BI w w.heap.size 30 q S zS ys u W → Calls Tryz.prog 58 #[.pointer (some ⟨q, 0, none⟩)] W fun e w' => e = .returned (.int .i64 (p : Nat)) ∧ BI w w.heap.size 30 q S zS (ys.drop 1) u w')
    (CL : ∀ q S u W, BI w w.heap.size 30 q S zS (ys.drop 1) u W → Calls Tryz.prog 59 #[.pointer (some ⟨q, 0, none⟩)] W fun e w' => e = .returned (.agg (uTab 25 f)) ∧ BI w w.heap.size 30 q S zS ((ys.drop 1).drop 200) u w')
    (CK : ∀ W, Below w.heap.size w W → Calls Tryz.prog 36 #[.int .i64 (a : Nat)] W fun e w' => e = .returned (.int .i64 (kd : Nat)) ∧ Below W.heap.size W w')
    (C1 : ∀ q S u W, BI w w.heap.size 30 q S zS ((ys.drop 1).drop 200) u W → Calls Tryz.prog 60 #[.pointer (some ⟨q, 0, none⟩)] W fun e w' => ∃ B d, e = .returned (.slice B n1 d) ∧ Words .u8 w' B x1 ∧ (x1 ≠ [] → ∀ a, B = some a → W.heap.size ≤ a.block) ∧ RKeep q W w' ∧ BI w w.heap.size 30 q S zS (((ys.drop 1).drop 200).drop m1) u w')
    (C2 : ∀ q S u W, BI w w.heap.size 30 q S zS (((ys.drop 1).drop 200).drop m1) u W → Calls Tryz.prog 60 #[.pointer (some ⟨q, 0, none⟩)] W fun e w' => e = .panicked thrown ∧ Below w.heap.size w w') :
    Calls Tryz.prog 27 #[s] w fun e w' => e = .panicked thrown ∧ Below w.heap.size w w' := by
  have CB := Lib.hid CB
  have CN := Lib.hid CN
  have CL := Lib.hid CL
  have CK := Lib.hid CK
  have C1 := Lib.hid C1
  have C2 := Lib.hid C2
  have HZ := Lib.hid (show zS = spV 0 (fun _ => 0) 0 false (.slice none 0 0) (.slice none 0 0) from rfl)
  rw [HZ.out] at CB
  have H0 := Lib.hid (Hold.new w (spV 0 (fun _ => 0) 0 false (.slice none 0 0) (.slice none 0 0)) 38 30 spV_size)
  have B0 := Lib.hid ((Below.refl w.heap.size w).alloc (Nat.le_refl _) (.cells (spV 0 (fun _ => 0) 0 false (.slice none 0 0) (.slice none 0 0)) 38))
  go_enter Tryz.func27, Tryz.ntmps27
  go_wp2_with (first
    | (go_at_call 49
       (with_reducible refine CB.out.mono ?_)
       rintro e u1 ⟨q, A', c', rfl, k1, k2, k3⟩
       have hq : w.heap.size < q := by simp at k2; omega
       have HQ := Lib.hid hq
       have hb := B0.out.trans (k3.mono B0.out.size)
       have s1 := run_storeSU (Hold.new u1 (spV 0 (fun _ => 0) 0 false (.slice none 0 0) (.slice none 0 0)) 38 30 spV_size).ok (c' := (spV a (fun _ => 0) 0 fl (.slice none 0 0) (.slice none 0 0))) spV_size spV_ones
       have F1 : Hid (BI w w.heap.size 30 q u1.heap.size zS ys (spV a (fun _ => 0) 0 fl (.slice none 0 0) (.slice none 0 0)) (u1.alloc (.cells (spV a (fun _ => 0) 0 fl (.slice none 0 0) (.slice none 0 0)) 38))) := ⟨⟨_, _, k1.alloc _⟩, Hold.new u1 _ _ 30 spV_size, ((H0.out.call k3).past _), hb.alloc hb.size _, hq, k1.hold.lt⟩
       clear k1 k2 k3 hq hb)
    | (go_at_call 58
       (with_reducible refine (CN.out _ _ _ _ F1.out).mono ?_)
       rintro e u2 ⟨rfl, k1⟩
       have q1 := k1.cell.setCell 26 (.int .i64 (p : Nat))
       rw [spV_put] at q1
       have q2 := k1.cell.frozen 26
       have q3 : u2.cell? ⟨u1.heap.size, 26, none⟩ = some (.int .i64 0) := k1.cell.cell spV_26
       have F2 := Lib.hid (k1.set (spV a (fun _ => 0) (p : Nat) fl (.slice none 0 0) (.slice none 0 0)) spV_size)
       clear k1 s1)
    | (go_at_call 59
       (with_reducible refine (CL.out _ _ _ _ F2.out).mono ?_)
       rintro e u3 ⟨rfl, k1⟩
       have s2 := run_storeL1 k1.cell f
       have k2 := k1.set (spV a f (p : Nat) fl (.slice none 0 0) (.slice none 0 0)) spV_size
       have F3 := Lib.hid k2
       have p0 := k2.cell.load (T := 38) Tryz.underlying38 rfl (by kernel_rfl)
       clear k1 k2 q1 q2 q3)
    | (go_at_call 36
       (with_reducible refine (CK.out _ F3.out.below).mono ?_)
       rintro e u4 ⟨rfl, hb⟩
       have k1 := F3.out.call hb
       have F4 := Lib.hid k1
       clear k1 hb p0)
    | (go_at_call 60
       (with_reducible refine (C1.out _ _ _ _ F4.out).mono ?_)
       rintro e u5 ⟨B1, d1, rfl, hw1, hn1, hk1, k1⟩
       have hnS : x1 ≠ [] → ∀ a, B1 = some a → u1.heap.size < a.block := fun h1 a h2 => Nat.lt_of_lt_of_le F4.out.cell.lt (hn1 h1 a h2)
       have HN1 := Lib.hid hnS
       have q4 := k1.cell.setCell 28 (.slice B1 n1 d1)
       rw [spV_put1] at q4
       have q5 := k1.cell.frozen 28
       have q6 : u5.cell? ⟨u1.heap.size, 28, none⟩ = some (.slice none 0 0) := k1.cell.cell spV_28
       have W5 := Lib.hid (words_setRow hw1 hnS (spV a f (p : Nat) fl (.slice B1 n1 d1) (.slice none 0 0)))
       have F5 := Lib.hid (k1.set (spV a f (p : Nat) fl (.slice B1 n1 d1) (.slice none 0 0)) spV_size)
       clear k1 hnS hw1 hn1 hk1)
    | (go_at_call 60
       (with_reducible refine (C2.out _ _ _ _ F5.out).mono ?_)
       rintro e u9 ⟨rfl, hb⟩
       have HB9 := Lib.hid hb
       clear hb))
  exact ⟨rfl, rfl, HB9.out⟩
end
end Go.Proofs.YtflgnhplbblokaaGreatDoor.Sn
end

section
namespace Go.Proofs.YtflgnhplbblokaaGreatDoor.Sn
open Go.RowKit Rw Cd Al Ln L64 Mk
set_option linter.unusedVariables false
set_option linter.unusedSimpArgs false
theorem BI.lowS {w W W' : World} {R k q S : Nat} {z u : Array Value} {ys : List Nat} (h : BI w R k q S z ys u W) (hb : Below W.heap.size W W') : Below R w W' := h.below.trans (hb.mono (Nat.le_of_lt h.res.lt))
def TellP (xs : List Nat) (w : World) (e : Ending) (w' : World) : Prop := ∃ B1 B2, (∃ d1 d2, e = .returned (.agg (spV (algU xs) (pF xs) (pAt xs : Nat) (pFl xs) (.slice B1 (pN1 xs).length d1) (.slice B2 (pN2 xs).length d2)))) ∧
  Words .u8 w' B1 (pN1 xs) ∧ Words .u8 w' B2 (pN2 xs) ∧ (pN1 xs ≠ [] → ∀ a, B1 = some a → w.heap.size ≤ a.block) ∧ (pN2 xs ≠ [] → ∀ a, B2 = some a → w.heap.size ≤ a.block)
theorem readSponge_any (A : Option Addr) (c : Nat) (xs : List Nat) (hx : AllLt 256 xs) (hlc : xs.length ≤ c) (hcm : c ≤ maxLen) (hmax : xs.length ≤ 90000) (w : World) (hT : ATab w) (hw : Words .u8 w A xs) :
    Calls Tryz.prog 27 #[.slice A xs.length c] w fun e w' => (if isP xs then TellP xs w e w' else e = .panicked thrown) ∧ Below w.heap.size w w' := by
  have hb0 : Below w.heap.size w (w.alloc (.cells zS 38)) := (Below.refl w.heap.size w).alloc (Nat.le_refl _) _
  have hT0 := hT.below hb0 (Nat.le_refl _)
  have hw0 := hw.below hb0 (Nat.le_refl _)
  have hno : isP xs = false → ∀ {e : Ending} {w' : World}, (e = .panicked thrown ∧ Below w.heap.size w w') → ((if isP xs then TellP xs w e w' else e = .panicked thrown) ∧ Below w.heap.size w w') := fun h e w' k => by rw [h]; exact k
  by_cases h1 : algU xs = 0 ∨ xs.length < 6
  · refine (readSponge_begun 0 0 0 0 0 0 0 false (fun _ => 0) [] [] [] _ w (begun_no A c xs hx hlc hcm _ hT0 hw0 h1)).mono fun e w' k => hno ?_ k
    cases hB : isP xs
    · rfl
    · have := (isP_spec hB).seven
      have := (isP_spec hB).len
      omega
  have ha : algU xs ≠ 0 := fun e => h1 (.inl e)
  have h6 : 6 ≤ xs.length := by omega
  have CB := begun_yes A c xs hx hlc hcm _ hT0 hw0 ha h6
  have hl6 : (xs.drop 6).length = xs.length - 6 := List.length_drop
  by_cases h2 : xs.length < 7
  · refine (readSponge_number (algU xs) 0 0 0 0 0 0 (pFl xs) (fun _ => 0) (xs.drop 6) [] [] _ w CB (fun q S u W F => ?_)).mono fun e w' k => hno ?_ k
    · obtain ⟨A', c', h⟩ := F.rd
      exact (number_no q A' c' _ (by omega) W h).mono fun e w' k => ⟨k.1, by obtain ⟨_, rfl⟩ := k; exact F.below⟩
    · cases hB : isP xs
      · rfl
      · have := (isP_spec hB).len
        omega
  have e7 : (xs.drop 6).drop 1 = xs.drop 7 := by rw [List.drop_drop]
  have CN : ∀ q S u W, BI w w.heap.size 30 q S zS (xs.drop 6) u W → Calls Tryz.prog 58 #[.pointer (some ⟨q, 0, none⟩)] W fun e w' => e = .returned (.int .i64 (pAt xs : Nat)) ∧ BI w w.heap.size 30 q S zS ((xs.drop 6).drop 1) u w' := fun q S u W F => by
    obtain ⟨A', c', h⟩ := F.rd
    have := number_yes q A' c' _ (by omega) W h
    rw [getD_drop] at this
    exact this.mono fun e w' k => by
      obtain ⟨rfl, k2, k3⟩ := k
      exact ⟨rfl, F.read k2 k3⟩
  have hl7 : (xs.drop 7).length = xs.length - 7 := List.length_drop
  by_cases h3 : xs.length < 207
  · refine (readSponge_lanes (algU xs) 0 (pAt xs) 0 0 0 0 (pFl xs) (fun _ => 0) (xs.drop 6) [] [] _ w CB CN (fun q S u W F => ?_)).mono fun e w' k => hno ?_ k
    · obtain ⟨A', c', h⟩ := F.rd
      rw [e7] at h
      exact (lanes_no q A' c' _ (by omega) W h).mono fun e w' k => ⟨k.1, F.lowS k.2⟩
    · cases hB : isP xs
      · rfl
      · have := (isP_spec hB).len
        omega
  have CL : ∀ q S u W, BI w w.heap.size 30 q S zS ((xs.drop 6).drop 1) u W → Calls Tryz.prog 59 #[.pointer (some ⟨q, 0, none⟩)] W fun e w' => e = .returned (.agg (uTab 25 (pF xs))) ∧ BI w w.heap.size 30 q S zS (((xs.drop 6).drop 1).drop 200) u w' := fun q S u W F => by
    obtain ⟨A', c', h⟩ := F.rd
    rw [e7] at h ⊢
    exact (lanes_yes q A' c' _ (by omega) W h).mono fun e w' k => by
      obtain ⟨A2, c2, rfl, k2, k3⟩ := k
      exact ⟨rfl, F.read k2 k3⟩
  have CK : ∀ W, Below w.heap.size w W → Calls Tryz.prog 36 #[.int .i64 (algU xs : Nat)] W fun e w' => e = .returned (.int .i64 (kdU xs : Nat)) ∧ Below W.heap.size W w' := fun W hb => kind_any (algU xs : Nat) W (hT.below hb (Nat.le_refl _))
  have e207 : ((xs.drop 6).drop 1).drop 200 = xs.drop 207 := by rw [e7, List.drop_drop]
  have hne : xs ≠ [] := fun e => by rw [e] at h6; simp at h6
  have ha256 : algU xs < 256 := by have := algU_le xs; omega
  have hspl : ∀ {x1 x2 : List Nat}, spgB (algU xs) (kdU xs) (pF xs) (pAt xs) (pFl xs) x1 x2 ≠ [] := fun e => by
    have := congrArg List.length e
    rw [spgB_len] at this
    simp at this
  by_cases h4 : kdU xs = 4
  · have k4 : (((kdU xs : Nat) : Int) == 4) = true := by rw [beq_iff_eq]; omega
    have hl207 : (xs.drop 207).length = xs.length - 207 := List.length_drop
    cases hg1 : gtok (xs.drop 207) with
    | false =>
      refine (readSponge_text1 (algU xs) (kdU xs) (pAt xs) 0 0 0 0 (pFl xs) (pF xs) (xs.drop 6) [] [] _ w k4 CB CN CL CK (fun q S u W F => ?_)).mono fun e w' k => hno ?_ k
      · obtain ⟨A', c', h⟩ := F.rd
        rw [e207] at h
        exact (text_no q A' c' _ (by omega) hg1 W h).mono fun e w' k => ⟨k.1, F.lowS k.2⟩
      · cases hB : isP xs
        · rfl
        · have := ((isP_spec hB).texts h4).1
          rw [hg1] at this
          exact absurd this (by decide)
    | true =>
      have n1 : pN1 xs = getB (xs.drop 207) := if_pos h4
      have C1 : ∀ q S u W, BI w w.heap.size 30 q S zS (((xs.drop 6).drop 1).drop 200) u W → Calls Tryz.prog 60 #[.pointer (some ⟨q, 0, none⟩)] W fun e w' => ∃ B d, e = .returned (.slice B (pN1 xs).length d) ∧ Words .u8 w' B (pN1 xs) ∧ (pN1 xs ≠ [] → ∀ a, B = some a → W.heap.size ≤ a.block) ∧ RKeep q W w' ∧ BI w w.heap.size 30 q S zS ((((xs.drop 6).drop 1).drop 200).drop (getE (xs.drop 207))) u w' := fun q S u W F => by
        obtain ⟨A', c', h⟩ := F.rd
        rw [e207] at h ⊢
        rw [n1]
        exact (text_yes q A' c' _ (by omega) hg1 W h).mono fun e w' k => by
          obtain ⟨B, d, A2, c2, rfl, k1, k2, k3, k4⟩ := k
          exact ⟨B, d, rfl, k1, k2, k4, F.read k3 k4⟩
      have eE : (((xs.drop 6).drop 1).drop 200).drop (getE (xs.drop 207)) = xs.drop (207 + getE (xs.drop 207)) := by rw [e207, List.drop_drop]
      have hlE : (xs.drop (207 + getE (xs.drop 207))).length ≤ xs.length := by rw [List.length_drop]; omega
      cases hg2 : gtok (xs.drop (207 + getE (xs.drop 207))) with
      | false =>
        refine (readSponge_text2 (algU xs) (kdU xs) (pAt xs) (pN1 xs).length 0 (getE (xs.drop 207)) 0 (pFl xs) (pF xs) (xs.drop 6) (pN1 xs) [] _ w k4 CB CN CL CK C1 (fun q S u W F => ?_)).mono fun e w' k => hno ?_ k
        · obtain ⟨A', c', h⟩ := F.rd
          rw [eE] at h
          exact (text_no q A' c' _ (by omega) hg2 W h).mono fun e w' k => ⟨k.1, F.lowS k.2⟩
        · cases hB : isP xs
          · rfl
          · have := ((isP_spec hB).texts h4).2
            rw [hg2] at this
            exact absurd this (by decide)
      | true =>
        have n2 : pN2 xs = getB (xs.drop (207 + getE (xs.drop 207))) := if_pos h4
        have C2 : ∀ q S u W, BI w w.heap.size 30 q S zS ((((xs.drop 6).drop 1).drop 200).drop (getE (xs.drop 207))) u W → Calls Tryz.prog 60 #[.pointer (some ⟨q, 0, none⟩)] W fun e w' => ∃ B d, e = .returned (.slice B (pN2 xs).length d) ∧ Words .u8 w' B (pN2 xs) ∧ (pN2 xs ≠ [] → ∀ a, B = some a → W.heap.size ≤ a.block) ∧ RKeep q W w' ∧ BI w w.heap.size 30 q S zS (((((xs.drop 6).drop 1).drop 200).drop (getE (xs.drop 207))).drop (getE (xs.drop (207 + getE (xs.drop 207))))) u w' := fun q S u W F => by
          obtain ⟨A', c', h⟩ := F.rd
          rw [eE] at h ⊢
          rw [n2]
          exact (text_yes q A' c' _ (by omega) hg2 W h).mono fun e w' k => by
            obtain ⟨B, d, A2, c2, rfl, k1, k2, k3, k4⟩ := k
            exact ⟨B, d, rfl, k1, k2, k4, F.read k3 k4⟩
        have key := fun ok HS => readSponge_named ok (algU xs) (kdU xs) (pAt xs) (pN1 xs).length (pN2 xs).length (getE (xs.drop 207)) (getE (xs.drop (207 + getE (xs.drop 207)))) (pFl xs) (pF xs) (xs.drop 6) (pN1 xs) (pN2 xs) (.slice A xs.length c) w k4
          (fun B1 d1 B2 d2 => spV (algU xs) (pF xs) (pAt xs : Nat) (pFl xs) (.slice B1 (pN1 xs).length d1) (.slice B2 (pN2 xs).length d2)) (fun _ _ _ _ => rfl) CB CN CL CK C1 C2 HS
        cases hr : right20 (kdU xs) (bkU xs) (pAt xs : Nat) (pFl xs) (pN1 xs).length (pN2 xs).length with
        | false =>
          have hB : isP xs = false := by unfold isP; rw [hr]; rfl
          rw [hB]
          refine key false fun W B1 d1 B2 d2 hb w1 w2 => ?_
          have := snapSponge_no (algU xs) (pF xs) (pAt xs : Nat) (pFl xs) B1 d1 (pN1 xs) B2 d2 (pN2 xs) (pN1_lt hx) (pN2_lt hx) W (hT.below hb (Nat.le_refl _)) w1 w2 hr
          refine this.mono fun e w' k => ?_
          obtain ⟨rfl, k2⟩ := k
          exact ⟨_, _, rfl, k2, hold_of _ _ false w' (equal_nil A c xs hne w' (hw.below (hb.trans (k2.mono hb.size)) (Nat.le_refl _)))⟩
        | true =>
          have hB : isP xs = decide (spgB (algU xs) (kdU xs) (pF xs) (pAt xs) (pFl xs) (pN1 xs) (pN2 xs) = xs) := by unfold isP; rw [hr]; rfl
          rw [hB]
          have hnm := nmOk_le (right20_spec hr).2.2.2
          refine key (decide _) fun W B1 d1 B2 d2 hb w1 w2 => ?_
          have := snapSponge_yes (algU xs) (pF xs) (pF_lt hx) (pAt xs) (pFl xs) B1 d1 (pN1 xs) B2 d2 (pN2 xs) (pN1_lt hx) (pN2_lt hx) W (hT.below hb (Nat.le_refl _)) w1 w2 hr
          refine this.mono fun e w' k => ?_
          obtain ⟨A2, c2, rfl, -, k2, k3⟩ := k
          exact ⟨_, _, rfl, k3, hold_of _ _ _ w' (equal_any A2 c2 _ A c xs (spgB_lt ha256 (pAt_lt hx) (pN1_lt hx) (pN2_lt hx) (by omega) (by omega)) hx hspl hne w' k2 (hw.below (hb.trans (k3.mono hb.size)) (Nat.le_refl _)))⟩
  · have k4 : (((kdU xs : Nat) : Int) == 4) = false := by rw [beq_eq_false_iff_ne]; omega
    have n1 : pN1 xs = [] := if_neg h4
    have n2 : pN2 xs = [] := if_neg h4
    have wnil : ∀ W, Words .u8 W none ([] : List Nat) := fun W i hi => absurd hi (by simp)
    have key := fun ok HS => readSponge_plain ok (algU xs) (kdU xs) (pAt xs) 0 0 0 0 (pFl xs) (pF xs) (xs.drop 6) [] [] (.slice A xs.length c) w k4
      (spV (algU xs) (pF xs) (pAt xs : Nat) (pFl xs) (.slice none 0 0) (.slice none 0 0)) rfl CB CN CL CK HS
    cases hr : right20 (kdU xs) (bkU xs) (pAt xs : Nat) (pFl xs) (pN1 xs).length (pN2 xs).length with
    | false =>
      have hB : isP xs = false := by unfold isP; rw [hr]; rfl
      rw [hB]
      rw [n1, n2] at hr
      refine key false fun W hb => ?_
      have := snapSponge_no (algU xs) (pF xs) (pAt xs : Nat) (pFl xs) none 0 [] none 0 [] (fun x hx => by cases hx) (fun x hx => by cases hx) W (hT.below hb (Nat.le_refl _)) (wnil W) (wnil W) hr
      refine this.mono fun e w' k => ?_
      obtain ⟨rfl, k2⟩ := k
      exact ⟨_, _, rfl, k2, hold_of _ _ false w' (equal_nil A c xs hne w' (hw.below (hb.trans (k2.mono hb.size)) (Nat.le_refl _)))⟩
    | true =>
      have hB : isP xs = decide (spgB (algU xs) (kdU xs) (pF xs) (pAt xs) (pFl xs) [] [] = xs) := by unfold isP; rw [hr, n1, n2]; rfl
      rw [hB]
      rw [n1, n2] at hr
      refine (key (decide (spgB (algU xs) (kdU xs) (pF xs) (pAt xs) (pFl xs) [] [] = xs)) fun W hb => ?_).mono fun e w' k => ⟨?_, k.2⟩
      · have := snapSponge_yes (algU xs) (pF xs) (pF_lt hx) (pAt xs) (pFl xs) none 0 [] none 0 [] (fun x hx => by cases hx) (fun x hx => by cases hx) W (hT.below hb (Nat.le_refl _)) (wnil W) (wnil W) hr
        refine this.mono fun e w' k => ?_
        obtain ⟨A2, c2, rfl, -, k2, k3⟩ := k
        exact ⟨_, _, rfl, k3, hold_of _ _ _ w' (equal_any A2 c2 _ A c xs (spgB_lt ha256 (pAt_lt hx) (fun x hx => by cases hx) (fun x hx => by cases hx) (by simp) (by simp)) hx hspl hne w' k2 (hw.below (hb.trans (k3.mono hb.size)) (Nat.le_refl _)))⟩
      · obtain ⟨he, -⟩ := k
        split at he
        · rename_i h
          rw [if_pos h]
          unfold TellP
          rw [n1, n2]
          exact ⟨none, none, ⟨0, 0, he⟩, wnil w', wnil w', fun h => absurd rfl h, fun h => absurd rfl h⟩
        · rename_i h
          rw [if_neg h]
          exact he
end Go.Proofs.YtflgnhplbblokaaGreatDoor.Sn
end

section
namespace Go.Proofs.YtflgnhplbblokaaGreatDoor.Sn
open Go.RowKit Rw Cd Al Ln L64 Mk
set_option linter.unusedVariables false
set_option linter.unusedSimpArgs false
section
attribute [local go_sem ↓] loadB storeBU zeroBU bsBU load8k store8k zero8k
attribute [local go_sem] run_bsB4
set_option maxRecDepth 100000 in
set_option maxHeartbeats 4000000 in
theorem readBlock_begun (a bk m hi lo n : Nat) (fl : Bool) (h : Nat → Nat) (ys : List Nat) (s : Value) (w : World)
    (CB : Calls Tryz.prog 49 #[s] (w.alloc (.cells zB 29)) fun e w' => e = .panicked thrown ∧ Below (w.alloc (.cells zB 29)).heap.size (w.alloc (.cells zB 29)) w') :
    Calls Tryz.prog 25 #[s] w fun e w' => e = .panicked thrown ∧ Below w.heap.size w w' := by
  have CB := Lib.hid CB
  have HZ := Lib.hid (show zB = blkV 0 (fun _ => 0) 0 0 (.slice none 0 0) false from rfl)
  rw [HZ.out] at CB
  have H0 := Lib.hid (Hold.new w (blkV 0 (fun _ => 0) 0 0 (.slice none 0 0) false) 29 13 rfl)
  have B0 := Lib.hid ((Below.refl w.heap.size w).alloc (Nat.le_refl _) (.cells (blkV 0 (fun _ => 0) 0 0 (.slice none 0 0) false) 29))
  go_enter Tryz.func25, Tryz.ntmps25
  go_wp2_with (first
    | (go_at_call 49
       (with_reducible refine CB.out.mono ?_)
       rintro e u9 ⟨rfl, hb⟩
       have HB9 := Lib.hid (B0.out.trans (hb.mono B0.out.size))
       clear hb))
  exact ⟨rfl, rfl, HB9.out⟩
set_option maxRecDepth 100000 in
set_option maxHeartbeats 4000000 in
theorem readBlock_count (a bk m hi lo n : Nat) (fl : Bool) (h : Nat → Nat) (ys : List Nat) (s : Value) (w : World)
    (CB : Calls Tryz.prog 49 #[s] (w.alloc (.cells zB 29)) fun e w' => ∃ q A' c', e = .returned (.tuple #[.pointer (some ⟨q, 0, none⟩), .int .i64 (a : Nat), .bool fl]) ∧ RD q A' c' ys w' ∧ (w.alloc (.cells zB 29)).heap.size ≤ q ∧ Below (w.alloc (.cells zB 29)).heap.size (w.alloc (.cells zB 29)) w')
    (CK : ∀ W, Below w.heap.size w W → Calls Tryz.prog 50 #[.int .i64 (a : Nat)] W fun e w' => e = .returned (.int .i64 (bk : Nat)) ∧ Below W.heap.size W w')
    (CC : ∀ q S u W, BI w w.heap.size 13 q S zB ys u W → Calls Tryz.prog 51 #[.pointer (some ⟨q, 0, none⟩)] W fun e w' => e = .panicked thrown ∧ Below w.heap.size w w') :
    Calls Tryz.prog 25 #[s] w fun e w' => e = .panicked thrown ∧ Below w.heap.size w w' := by
  have CB := Lib.hid CB
  have CK := Lib.hid CK
  have CC := Lib.hid CC
  have HZ := Lib.hid (show zB = blkV 0 (fun _ => 0) 0 0 (.slice none 0 0) false from rfl)
  rw [HZ.out] at CB
  have H0 := Lib.hid (Hold.new w (blkV 0 (fun _ => 0) 0 0 (.slice none 0 0) false) 29 13 rfl)
  have B0 := Lib.hid ((Below.refl w.heap.size w).alloc (Nat.le_refl _) (.cells (blkV 0 (fun _ => 0) 0 0 (.slice none 0 0) false) 29))
  go_enter Tryz.func25, Tryz.ntmps25
  go_wp2_with (first
    | (go_at_call 49
       (with_reducible refine CB.out.mono ?_)
       rintro e u1 ⟨q, A', c', rfl, k1, k2, k3⟩
       have hq : w.heap.size < q := by simp at k2; omega
       have HQ := Lib.hid hq
       have R1 := Lib.hid k1
       have H1 := Lib.hid (H0.out.call k3)
       have B1 := Lib.hid (B0.out.trans (k3.mono B0.out.size))
       clear k1 k2 k3 hq)
    | (go_at_call 50
       (with_reducible refine (CK.out _ B1.out).mono ?_)
       rintro e u2 ⟨rfl, hb⟩
       have s1 := run_storeBU (Hold.new u2 (blkV 0 (fun _ => 0) 0 0 (.slice none 0 0) false) 29 13 rfl).ok (c' := blkV a (fun _ => 0) 0 0 (.slice none 0 0) fl) rfl blkV_ones
       have F3 : Hid (BI w w.heap.size 13 q u2.heap.size zB ys (blkV a (fun _ => 0) 0 0 (.slice none 0 0) fl) (u2.alloc (.cells (blkV a (fun _ => 0) 0 0 (.slice none 0 0) fl) 29))) := by
         have b2 := B1.out.trans (hb.mono B1.out.size)
         exact ⟨⟨_, _, (R1.out.below hb).alloc _⟩, Hold.new u2 _ _ 13 rfl, ((H1.out.call hb).past _), b2.alloc b2.size _, HQ.out, (R1.out.below hb).hold.lt⟩
       clear hb)
    | (go_at_call 51
       (with_reducible refine (CC.out _ _ _ _ F3.out).mono ?_)
       rintro e u9 ⟨rfl, hb⟩
       have HB9 := Lib.hid hb
       clear hb))
  exact ⟨rfl, rfl, HB9.out⟩
set_option maxRecDepth 100000 in
set_option maxHeartbeats 4000000 in
theorem readBlock_words (a bk m hi lo n : Nat) (fl : Bool) (h : Nat → Nat) (ys : List Nat) (s : Value) (w : World)
    (CB : Calls Tryz.prog 49 #[s] (w.alloc (.cells zB 29)) fun e w' => ∃ q A' c', e = .returned (.tuple #[.pointer (some ⟨q, 0, none⟩), .int .i64 (a : Nat), .bool fl]) ∧ RD q A' c' ys w' ∧ (w.alloc (.cells zB 29)).heap.size ≤ q ∧ Below (w.alloc (.cells zB 29)).heap.size (w.alloc (.cells zB 29)) w')
    (CK : ∀ W, Below w.heap.size w W → Calls Tryz.prog 50 #[.int .i64 (a : Nat)] W fun e w' => e = .returned (.int .i64 (bk : Nat)) ∧ Below W.heap.size W w')
    (CC : ∀ q S u W, BI w w.heap.size 13 q S zB ys u W → Calls Tryz.prog 51 #[.pointer (some ⟨q, 0, none⟩)] W fun e w' => e = .returned (.agg #[.int .u64 (hi : Nat), .int .u64 (lo : Nat)]) ∧ BI w w.heap.size 13 q S zB (ys.drop 16) u w')
    (CW : ∀ q S u W, BI w w.heap.size 13 q S zB (ys.drop 16) u W → Calls Tryz.prog 52 #[.pointer (some ⟨q, 0, none⟩), .int .i64 (bk : Nat)] W fun e w' => e = .panicked thrown ∧ Below w.heap.size w w') :
    Calls Tryz.prog 25 #[s] w fun e w' => e = .panicked thrown ∧ Below w.heap.size w w' := by
  have CB := Lib.hid CB
  have CK := Lib.hid CK
  have CC := Lib.hid CC
  have CW := Lib.hid CW
  have HZ := Lib.hid (show zB = blkV 0 (fun _ => 0) 0 0 (.slice none 0 0) false from rfl)
  rw [HZ.out] at CB
  have H0 := Lib.hid (Hold.new w (blkV 0 (fun _ => 0) 0 0 (.slice none 0 0) false) 29 13 rfl)
  have B0 := Lib.hid ((Below.refl w.heap.size w).alloc (Nat.le_refl _) (.cells (blkV 0 (fun _ => 0) 0 0 (.slice none 0 0) false) 29))
  go_enter Tryz.func25, Tryz.ntmps25
  go_wp2_with (first
    | (go_at_call 49
       (with_reducible refine CB.out.mono ?_)
       rintro e u1 ⟨q, A', c', rfl, k1, k2, k3⟩
       have hq : w.heap.size < q := by simp at k2; omega
       have HQ := Lib.hid hq
       have R1 := Lib.hid k1
       have H1 := Lib.hid (H0.out.call k3)
       have B1 := Lib.hid (B0.out.trans (k3.mono B0.out.size))
       clear k1 k2 k3 hq)
    | (go_at_call 50
       (with_reducible refine (CK.out _ B1.out).mono ?_)
       rintro e u2 ⟨rfl, hb⟩
       have s1 := run_storeBU (Hold.new u2 (blkV 0 (fun _ => 0) 0 0 (.slice none 0 0) false) 29 13 rfl).ok (c' := blkV a (fun _ => 0) 0 0 (.slice none 0 0) fl) rfl blkV_ones
       have F3 : Hid (BI w w.heap.size 13 q u2.heap.size zB ys (blkV a (fun _ => 0) 0 0 (.slice none 0 0) fl) (u2.alloc (.cells (blkV a (fun _ => 0) 0 0 (.slice none 0 0) fl) 29))) := by
         have b2 := B1.out.trans (hb.mono B1.out.size)
         exact ⟨⟨_, _, (R1.out.below hb).alloc _⟩, Hold.new u2 _ _ 13 rfl, ((H1.out.call hb).past _), b2.alloc b2.size _, HQ.out, (R1.out.below hb).hold.lt⟩
       clear hb)
    | (go_at_call 51
       (with_reducible refine (CC.out _ _ _ _ F3.out).mono ?_)
       rintro e u3 ⟨rfl, k1⟩
       have s2 := run_storeC9 k1.cell hi lo
       have F4 := Lib.hid (k1.set (blkV a (fun _ => 0) hi lo (.slice none 0 0) fl) rfl)
       clear k1 s1)
    | (go_at_call 52
       (with_reducible refine (CW.out _ _ _ _ F4.out).mono ?_)
       rintro e u9 ⟨rfl, hb⟩
       have HB9 := Lib.hid hb
       clear hb))
  exact ⟨rfl, rfl, HB9.out⟩
set_option maxRecDepth 100000 in
set_option maxHeartbeats 4000000 in
theorem readBlock_take (a bk m hi lo n : Nat) (fl : Bool) (h : Nat → Nat) (ys : List Nat) (s : Value) (w : World)
    (CB : Calls Tryz.prog 49 #[s] (w.alloc (.cells zB 29)) fun e w' => ∃ q A' c', e = .returned (.tuple #[.pointer (some ⟨q, 0, none⟩), .int .i64 (a : Nat), .bool fl]) ∧ RD q A' c' ys w' ∧ (w.alloc (.cells zB 29)).heap.size ≤ q ∧ Below (w.alloc (.cells zB 29)).heap.size (w.alloc (.cells zB 29)) w')
    (CK : ∀ W, Below w.heap.size w W → Calls Tryz.prog 50 #[.int .i64 (a : Nat)] W fun e w' => e = .returned (.int .i64 (bk : Nat)) ∧ Below W.heap.size W w')
    (CC : ∀ q S u W, BI w w.heap.size 13 q S zB ys u W → Calls Tryz.prog 51 #[.pointer (some ⟨q, 0, none⟩)] W fun e w' => e = .returned (.agg #[.int .u64 (hi : Nat), .int .u64 (lo : Nat)]) ∧ BI w w.heap.size 13 q S zB (ys.drop 16) u w')
    (CW : ∀ q S u W, BI w w.heap.size 13 q S zB (ys.drop 16) u W → Calls Tryz.prog 52 #[.pointer (some ⟨q, 0, none⟩), .int .i64 (bk : Nat)] W fun e w' => e = .returned (.agg (uTab 8 h)) ∧ BI w w.heap.size 13 q S zB ((ys.drop 16).drop (8 * m)) u w')
    (CM : ∀ W, Calls Tryz.prog 55 #[.agg #[.int .u64 (hi : Nat), .int .u64 (lo : Nat)], .int .i64 (bk : Nat)] W fun e w' => e = .returned (.int .i64 (n : Nat)) ∧ Below W.heap.size W w')
    (CT : ∀ q S u W, BI w w.heap.size 13 q S zB ((ys.drop 16).drop (8 * m)) u W → Calls Tryz.prog 54 #[.pointer (some ⟨q, 0, none⟩), .int .i64 (n : Nat)] W fun e w' => e = .panicked thrown ∧ Below w.heap.size w w') :
    Calls Tryz.prog 25 #[s] w fun e w' => e = .panicked thrown ∧ Below w.heap.size w w' := by
  have CB := Lib.hid CB
  have CK := Lib.hid CK
  have CC := Lib.hid CC
  have CW := Lib.hid CW
  have CM := Lib.hid CM
  have CT := Lib.hid CT
  have HZ := Lib.hid (show zB = blkV 0 (fun _ => 0) 0 0 (.slice none 0 0) false from rfl)
  rw [HZ.out] at CB
  have H0 := Lib.hid (Hold.new w (blkV 0 (fun _ => 0) 0 0 (.slice none 0 0) false) 29 13 rfl)
  have B0 := Lib.hid ((Below.refl w.heap.size w).alloc (Nat.le_refl _) (.cells (blkV 0 (fun _ => 0) 0 0 (.slice none 0 0) false) 29))
  go_enter Tryz.func25, Tryz.ntmps25
  go_wp2_with (first
    | (go_at_call 49
       (with_reducible refine CB.out.mono ?_)
       rintro e u1 ⟨q, A', c', rfl, k1, k2, k3⟩
       have hq : w.heap.size < q := by simp at k2; omega
       have HQ := Lib.hid hq
       have R1 := Lib.hid k1
       have H1 := Lib.hid (H0.out.call k3)
       have B1 := Lib.hid (B0.out.trans (k3.mono B0.out.size))
       clear k1 k2 k3 hq)
    | (go_at_call 50
       (with_reducible refine (CK.out _ B1.out).mono ?_)
       rintro e u2 ⟨rfl, hb⟩
       have s1 := run_storeBU (Hold.new u2 (blkV 0 (fun _ => 0) 0 0 (.slice none 0 0) false) 29 13 rfl).ok (c' := blkV a (fun _ => 0) 0 0 (.slice none 0 0) fl) rfl blkV_ones
       have F3 : Hid (BI w w.heap.size 13 q u2.heap.size zB ys (blkV a (fun _ => 0) 0 0 (.slice none 0 0) fl) (u2.alloc (.cells (blkV a (fun _ => 0) 0 0 (.slice none 0 0) fl) 29))) := by
         have b2 := B1.out.trans (hb.mono B1.out.size)
         exact ⟨⟨_, _, (R1.out.below hb).alloc _⟩, Hold.new u2 _ _ 13 rfl, ((H1.out.call hb).past _), b2.alloc b2.size _, HQ.out, (R1.out.below hb).hold.lt⟩
       clear hb)
    | (go_at_call 51
       (with_reducible refine (CC.out _ _ _ _ F3.out).mono ?_)
       rintro e u3 ⟨rfl, k1⟩
       have s2 := run_storeC9 k1.cell hi lo
       have F4 := Lib.hid (k1.set (blkV a (fun _ => 0) hi lo (.slice none 0 0) fl) rfl)
       clear k1 s1)
    | (go_at_call 52
       (with_reducible refine (CW.out _ _ _ _ F4.out).mono ?_)
       rintro e u4 ⟨rfl, k1⟩
       have s3 := run_storeH1 k1.cell h
       have k2 := k1.set (blkV a h hi lo (.slice none 0 0) fl) rfl
       have s4 := blk_count k2.cell
       have F5 := Lib.hid k2
       clear k1 k2 s2)
    | (go_at_call 55
       (with_reducible refine (CM.out _).mono ?_)
       rintro e u5 ⟨rfl, hb⟩
       have F6 := Lib.hid (F5.out.call hb)
       clear hb s3 s4)
    | (go_at_call 54
       (with_reducible refine (CT.out _ _ _ _ F6.out).mono ?_)
       rintro e u9 ⟨rfl, hb⟩
       have HB9 := Lib.hid hb
       clear hb))
  exact ⟨rfl, rfl, HB9.out⟩
end
theorem BI.low {w W W' : World} {R k q S : Nat} {z u : Array Value} {ys : List Nat} (h : BI w R k q S z ys u W) (hb : Below W.heap.size W W') : Below R w W' := h.below.trans (hb.mono (Nat.le_of_lt h.res.lt))
theorem readBlock_any (A : Option Addr) (c : Nat) (xs : List Nat) (hx : AllLt 256 xs) (hlc : xs.length ≤ c) (hcm : c ≤ maxLen) (w : World) (hT : ATab w) (hw : Words .u8 w A xs) :
    Calls Tryz.prog 25 #[.slice A xs.length c] w fun e w' =>
      (if isB xs then ∃ B d, e = .returned (.agg (blkV (algU xs) (pH (mB (algU xs)) xs) (pHi xs) (pLo xs) (.slice B (pR xs).length d) (pFl xs))) ∧ Words .u8 w' B (pR xs) ∧ (pR xs ≠ [] → ∀ a, B = some a → w.heap.size ≤ a.block) else e = .panicked thrown) ∧ Below w.heap.size w w' := by
  have hb0 : Below w.heap.size w (w.alloc (.cells zB 29)) := (Below.refl _ w).alloc (Nat.le_refl _) _
  have hT0 := hT.below hb0 (Nat.le_refl _)
  have hw0 := hw.below hb0 (Nat.le_refl _)
  have hno : isB xs = false → ∀ {e : Ending} {w' : World}, (e = .panicked thrown ∧ Below w.heap.size w w') → ((if isB xs then ∃ B d, e = .returned (.agg (blkV (algU xs) (pH (mB (algU xs)) xs) (pHi xs) (pLo xs) (.slice B (pR xs).length d) (pFl xs))) ∧ Words .u8 w' B (pR xs) ∧ (pR xs ≠ [] → ∀ a, B = some a → w.heap.size ≤ a.block) else e = .panicked thrown) ∧ Below w.heap.size w w') := fun h e w' k => by rw [h]; exact k
  by_cases h1 : algU xs = 0 ∨ xs.length < 6
  · refine (readBlock_begun 0 0 0 0 0 0 false (fun _ => 0) [] _ w (begun_no A c xs hx hlc hcm _ hT0 hw0 h1)).mono fun e w' k => hno ?_ k
    cases hB : isB xs
    · rfl
    · have := isB_spec hB
      have := this.one
      have := (isB_spec hB).len
      omega
  have ha : algU xs ≠ 0 := fun e => h1 (.inl e)
  have h6 : 6 ≤ xs.length := by omega
  have CB := begun_yes A c xs hx hlc hcm _ hT0 hw0 ha h6
  have CK : ∀ W, Below w.heap.size w W → Calls Tryz.prog 50 #[.int .i64 (algU xs : Nat)] W fun e w' => e = .returned (.int .i64 (bkN (idx (algU xs)) : Nat)) ∧ Below W.heap.size W w' := fun W hb => block_any (algU xs : Nat) W (hT.below hb (Nat.le_refl _))
  have hl6 : (xs.drop 6).length = xs.length - 6 := List.length_drop
  by_cases h2 : xs.length < 22
  · refine (readBlock_count (algU xs) (bkN (idx (algU xs))) 0 0 0 0 (pFl xs) (fun _ => 0) (xs.drop 6) _ w CB CK (fun q S u W F => ?_)).mono fun e w' k => hno ?_ k
    · obtain ⟨A', c', h⟩ := F.rd
      exact (count_no q A' c' _ (by omega) W h).mono fun e w' k => ⟨k.1, F.low k.2⟩
    · cases hB : isB xs
      · rfl
      · have := (isB_spec hB).len
        have := (isB_spec hB).m
        have := (isB_spec hB).sz
        omega
  have e22 : (xs.drop 6).drop 16 = xs.drop 22 := by rw [List.drop_drop]
  have CC : ∀ q S u W, BI w w.heap.size 13 q S zB (xs.drop 6) u W → Calls Tryz.prog 51 #[.pointer (some ⟨q, 0, none⟩)] W fun e w' => e = .returned (.agg #[.int .u64 (pHi xs : Nat), .int .u64 (pLo xs : Nat)]) ∧ BI w w.heap.size 13 q S zB ((xs.drop 6).drop 16) u w' := fun q S u W F => by
    obtain ⟨A', c', h⟩ := F.rd
    have := count_yes q A' c' _ (by omega) W h
    rw [List.drop_drop] at this
    exact this.mono fun e w' k => by
      obtain ⟨A2, c2, rfl, k2, k3⟩ := k
      exact ⟨rfl, F.read k2 k3⟩
  have hm : mB (algU xs) = if bkN (idx (algU xs)) = 64 then 4 else 8 := rfl
  have hl22 : (xs.drop 22).length = xs.length - 22 := List.length_drop
  by_cases h3 : xs.length < 22 + 8 * mB (algU xs)
  · refine (readBlock_words (algU xs) (bkN (idx (algU xs))) 0 (pHi xs) (pLo xs) 0 (pFl xs) (fun _ => 0) (xs.drop 6) _ w CB CK CC (fun q S u W F => ?_)).mono fun e w' k => hno ?_ k
    · obtain ⟨A', c', h⟩ := F.rd
      rw [e22] at h
      exact (wordsU_no (bkN (idx (algU xs))) (mB (algU xs)) hm q A' c' _ (by omega) W h).mono fun e w' k => ⟨k.1, F.low k.2⟩
    · cases hB : isB xs
      · rfl
      · have := (isB_spec hB).len
        omega
  have CW : ∀ q S u W, BI w w.heap.size 13 q S zB ((xs.drop 6).drop 16) u W → Calls Tryz.prog 52 #[.pointer (some ⟨q, 0, none⟩), .int .i64 (bkN (idx (algU xs)) : Nat)] W fun e w' => e = .returned (.agg (uTab 8 (pH (mB (algU xs)) xs))) ∧ BI w w.heap.size 13 q S zB (((xs.drop 6).drop 16).drop (8 * mB (algU xs))) u w' := fun q S u W F => by
    obtain ⟨A', c', h⟩ := F.rd
    rw [e22] at h ⊢
    exact (wordsU (bkN (idx (algU xs))) (mB (algU xs)) hm q A' c' _ (by omega) W h).mono fun e w' k => by
      obtain ⟨A2, c2, rfl, k2, k3⟩ := k
      exact ⟨rfl, F.read k2 k3⟩
  have CM : ∀ W, Calls Tryz.prog 55 #[.agg #[.int .u64 (pHi xs : Nat), .int .u64 (pLo xs : Nat)], .int .i64 (bkN (idx (algU xs)) : Nat)] W fun e w' => e = .returned (.int .i64 (pL xs : Nat)) ∧ Below W.heap.size W w' := fun W => by
    have := mod_any (pHi xs) (pLo xs) (pHi_lt hx) (pLo_lt hx) (bkN (idx (algU xs)) : Nat) (by omega) (by have := bkN_le (idx (algU xs)); omega) W
    rwa [pL_cast] at this
  have e22m : ((xs.drop 6).drop 16).drop (8 * mB (algU xs)) = xs.drop (22 + 8 * mB (algU xs)) := by rw [e22, List.drop_drop]
  have hlm : (xs.drop (22 + 8 * mB (algU xs))).length = xs.length - (22 + 8 * mB (algU xs)) := List.length_drop
  by_cases h4 : xs.length < 22 + 8 * mB (algU xs) + pL xs
  · refine (readBlock_take (algU xs) (bkN (idx (algU xs))) (mB (algU xs)) (pHi xs) (pLo xs) (pL xs) (pFl xs) (pH (mB (algU xs)) xs) (xs.drop 6) _ w CB CK CC CW CM (fun q S u W F => ?_)).mono fun e w' k => hno ?_ k
    · obtain ⟨A', c', h⟩ := F.rd
      rw [e22m] at h
      exact (take_no q A' c' _ (pL xs) (by omega) W h).mono fun e w' k => ⟨k.1, by obtain ⟨_, rfl⟩ := k; exact F.below⟩
    · cases hB : isB xs
      · rfl
      · have := (isB_spec hB).len
        have := (isB_spec hB).pl
        omega
  have hRl : (pR xs).length = pL xs := by unfold pR; rw [List.length_take]; omega
  have hRx : AllLt 256 (pR xs) := (hx.drop _).take _
  have hL := pL_le xs
  have CT : ∀ q S u W, BI w w.heap.size 13 q S zB (((xs.drop 6).drop 16).drop (8 * mB (algU xs))) u W → Calls Tryz.prog 54 #[.pointer (some ⟨q, 0, none⟩), .int .i64 (pL xs : Nat)] W fun e w' => ∃ B d, e = .returned (.slice B (pL xs) d) ∧ Words .u8 w' B (pR xs) ∧ BI w w.heap.size 13 q S zB ((((xs.drop 6).drop 16).drop (8 * mB (algU xs))).drop (pL xs)) u w' := fun q S u W F => by
    obtain ⟨A', c', h⟩ := F.rd
    rw [e22m] at h ⊢
    exact (take_yes q A' c' _ (pL xs) (by omega) W h).mono fun e w' k => by
      obtain ⟨rfl, k1, k2, k3⟩ := k
      exact ⟨_, _, rfl, k1.words, F.read k2 k3⟩
  have CL : ∀ B d W, Words .u8 W B (pR xs) → Calls Tryz.prog 53 #[.slice B (pL xs) d] W fun e w' => ∃ B' d', e = .returned (.slice B' (pL xs) d') ∧ Words .u8 w' B' (pR xs) ∧ (pR xs ≠ [] → ∀ a, B' = some a → W.heap.size ≤ a.block) ∧ Below W.heap.size W w' := fun B d W h => by
    have := bclone_big B d (pR xs) (by omega) W h
    rw [hRl] at this
    exact this.mono fun e w' k => by
      obtain ⟨B', d', rfl, k1, k2, k3⟩ := k
      refine ⟨B', d', by rw [hRl], k2, fun hn a e => ?_, k3⟩
      obtain ⟨g, e2, hg⟩ := Ln.row_addr k1 (List.length_pos_iff.2 hn)
      rw [e2] at e; cases e; exact hg
  have hne : xs ≠ [] := fun e => by rw [e] at h6; simp at h6
  have key := fun ok HS => readBlock_core ok (algU xs) (bkN (idx (algU xs))) (mB (algU xs)) (pHi xs) (pLo xs) (pL xs) (pFl xs) (pH (mB (algU xs)) xs) (xs.drop 6) (pR xs) (.slice A xs.length c) w CB CK CC CW CM CT CL HS
  have hh := fun i => pH_lt hx (m := mB (algU xs)) (by have := mB_or (algU xs); omega) i
  rw [hRl]
  cases hr : right11 (algU xs) (pH (mB (algU xs)) xs) (numC (pHi xs) (pLo xs)) (pR xs).length with
  | false =>
    have hB : isB xs = false := by unfold isB; rw [hr]; rfl
    rw [hB]
    refine key false fun W B d hb hB => ?_
    have := snapBlock_no (algU xs) (pH (mB (algU xs)) xs) hh (pHi xs) (pLo xs) (pHi_lt hx) (pLo_lt hx) B (pL xs) d (pFl xs) W (by rw [← hRl]; exact hr)
    refine this.mono fun e w' k => ?_
    obtain ⟨rfl, k2⟩ := k
    exact ⟨_, _, rfl, k2, hold_of _ _ false w' (equal_nil A c xs hne w' (hw.below (hb.trans (k2.mono hb.size)) (Nat.le_refl _)))⟩
  | true =>
    have hB : isB xs = decide (blkB (algU xs) (sz11 (algU xs)) (pH (mB (algU xs)) xs) (pHi xs) (pLo xs) (pR xs) (pFl xs) = xs) := by unfold isB; rw [hr]; rfl
    rw [hB]
    refine key (decide _) fun W B d hb hB => ?_
    have := snapBlock_yes (algU xs) (pH (mB (algU xs)) xs) hh (pHi xs) (pLo xs) (pHi_lt hx) (pLo_lt hx) B d (pR xs) (pFl xs) W hr (hT.below hb (Nat.le_refl _)) hB
    rw [hRl] at this
    refine this.mono fun e w' k => ?_
    obtain ⟨A2, c2, rfl, -, k2, k3⟩ := k
    refine ⟨_, _, rfl, k3, hold_of _ _ _ w' (equal_any A2 c2 _ A c xs (blkB_lt _ (by have := algU_le xs; omega) hRx) hx (fun e => ?_) hne w' k2 (hw.below (hb.trans (k3.mono hb.size)) (Nat.le_refl _)))⟩
    have := congrArg List.length e
    unfold blkB headN at this
    simp at this
end Go.Proofs.YtflgnhplbblokaaGreatDoor.Sn
end

section
namespace Go.Proofs.YtflgnhplbblokaaGreatDoor.Sn
open Go.RowKit Rw Cd Al Ln L64 Mk
set_option linter.unusedVariables false
set_option linter.unusedSimpArgs false
def caughtE : List PanicEntry := [{ v := .iface 30 (.int .i64 7), recovered := true }]
theorem assertE (W : World) (v : Value) : (Instr.typeAssert (.iface 30 v) 20 30 true).run Tryz.prog W = .ok (.tuple #[v, .bool true]) W := by kernel_rfl
theorem errNil (W : World) (v : Value) : (binOp .eql 20 (.iface 30 v) .nilIface).run Tryz.prog W = .ok (.bool false) W := by kernel_rfl
theorem nilNil (W : World) : (binOp .eql 20 .nilIface .nilIface).run Tryz.prog W = .ok (.bool true) W := by kernel_rfl
section
attribute [local go_sem ↓] assertE errNil nilNil
set_option maxRecDepth 20000 in
theorem catchB_panicking (p : Addr) (x : Int) (w : World) (hc : w.cell? p = some (.int .i64 x)) (hz : w.frozen? p = false) :
    CallsD Tryz.prog 48 #[.pointer (some p)] (.panicking thrown) w fun e u' w' =>
      e = .returned (.tuple #[]) ∧ u' = .panicking caughtE ∧ w' = w.setCell p (.int .i64 7) := by
  refine callsD_of_wpS Tryz.func48 rfl fun c₀ cs hu => ?_
  apply wpS_seq
  apply wpS_region
  simp [wpOpsS, go_sem, recoverD, hu, thrown, Tryz.ntmps48, Exit.thenS]
  rw [show (#[Value.pointer (some p)] ++ ((Array.replicate 15 undef).setIfInBounds 3 (Value.iface 30 (Value.int IntKind.i64 7))).setIfInBounds 0 (Value.iface 30 (Value.int IntKind.i64 7))) =
    #[Value.pointer (some p), Value.iface 30 (Value.int IntKind.i64 7), undef, undef, Value.iface 30 (Value.int IntKind.i64 7), undef, undef, undef, undef, undef, undef, undef, undef, undef, undef, undef] from rfl]
  refine wpS_of_wp ?_
  obtain ⟨Q, hQ⟩ : ∃ Q : Exit → Act → List Frame → World → Prop, Q = bodyPostS Tryz.prog Tryz.f48 c₀ cs fun e u' w' => e = Ending.returned (Value.tuple #[]) ∧ u' = FrameMode.panicking caughtE ∧ w' = w.setCell p (Value.int IntKind.i64 7) := ⟨_, rfl⟩
  rw [← hQ]
  have HQ := Lib.hid hQ
  clear hQ
  go_wp2
  rw [HQ.out]
  exact ⟨rfl, .panicking caughtE, rfl, .tuple #[], by simp [results, Tryz.results48], rfl, rfl, rfl⟩
set_option maxRecDepth 20000 in
theorem catchB_idle (p : Addr) (w : World) :
    CallsD Tryz.prog 48 #[.pointer (some p)] .returning w fun e u' w' => e = .returned (.tuple #[]) ∧ u' = .returning ∧ w' = w := by
  refine callsD_of_wpS Tryz.func48 rfl fun c₀ cs hu => ?_
  apply wpS_seq
  apply wpS_region
  simp [wpOpsS, go_sem, recoverD, hu, Tryz.ntmps48, Exit.thenS]
  rw [show (#[Value.pointer (some p)] ++ ((Array.replicate 15 undef).setIfInBounds 3 Value.nilIface).setIfInBounds 0 Value.nilIface) =
    #[Value.pointer (some p), Value.nilIface, undef, undef, Value.nilIface, undef, undef, undef, undef, undef, undef, undef, undef, undef, undef, undef] from rfl]
  refine wpS_of_wp ?_
  obtain ⟨Q, hQ⟩ : ∃ Q : Exit → Act → List Frame → World → Prop, Q = bodyPostS Tryz.prog Tryz.f48 c₀ cs fun e u' w' => e = Ending.returned (Value.tuple #[]) ∧ u' = FrameMode.returning ∧ w' = w := ⟨_, rfl⟩
  rw [← hQ]
  have HQ := Lib.hid hQ
  clear hQ
  go_wp2
  rw [HQ.out]
  refine ⟨rfl, .returning, ?_, .tuple #[], by simp [results, Tryz.results48], rfl, rfl, rfl⟩
  cases c₀
  simp_all
end
theorem results_cellsU {P : Program} {fn : Func} {p q : Tmp} {t u : TypeId} (h : fn.results = #[.cell p t, .cell q u]) (tmps : Array Value) (w : World) (a b : Addr) (x y : Value)
    (hp : tmps.getD p undef = .pointer (some a)) (hq : tmps.getD q undef = .pointer (some b)) (l1 : (loadVar t a).run P w = .ok x w) (l2 : (loadVar u b).run P w = .ok y w) :
    (results fn tmps).run P w = .ok (.tuple #[x, y]) w := by
  have hp' : tmps[p]?.getD undef = .pointer (some a) := by simpa using hp
  have hq' : tmps[q]?.getD undef = .pointer (some b) := by simpa using hq
  simp [results, h, hp', hq', asAddr, l1, l2]
section
attribute [local go_sem ↓] loadB storeBU zeroBU
set_option maxRecDepth 100000 in
set_option maxHeartbeats 4000000 in
theorem caughtB_no (s : Value) (w : World) (C : Calls Tryz.prog 25 #[s] ((w.alloc (.cells zB 29)).alloc (.cells #[.int .i64 0] 30)) fun e w' => e = .panicked thrown ∧ Below ((w.alloc (.cells zB 29)).alloc (.cells #[.int .i64 0] 30)).heap.size ((w.alloc (.cells zB 29)).alloc (.cells #[.int .i64 0] 30)) w') :
    Calls Tryz.prog 24 #[.func (.func 25) #[] #[], s] w fun e w' => e = .returned (.tuple #[.agg zB, .int .i64 7]) ∧ Below w.heap.size w w' := by
  have hmf : ∀ (fn : Fn) (first cap : Array Value) (w : World), (Instr.makeFunc fn first cap).run Tryz.prog w = .ok (.func fn first cap) w := fun _ _ _ _ => rfl
  have H0 := Lib.hid ((Hold.new w zB 29 13 rfl).past (.cells #[.int .i64 0] 30))
  have H1 := Lib.hid (Hold.new1 w (.cells zB 29) #[.int .i64 0] 30 1 rfl)
  have B0 := Lib.hid (((Below.refl w.heap.size w).alloc (Nat.le_refl _) (.cells zB 29)).alloc (by simp) (.cells #[.int .i64 0] 30))
  have HC := Lib.hid C
  clear C
  have HZ : Hid (zB = blkV 0 (fun _ => 0) 0 0 (.slice none 0 0) false) := rfl
  rw [HZ.out] at HC H0 H1 B0 ⊢
  go_enter_defers Tryz.func24, Tryz.ntmps24
  go_wp2_with (go_at_call 25; (with_reducible refine HC.out.mono ?_); rintro e u1 ⟨rfl, hb⟩; have HB := Lib.hid hb; clear hb)
  have h0 := H0.out.call HB.out
  have h1 := H1.out.call HB.out
  have hb := B0.out.trans (HB.out.mono B0.out.size)
  refine leaves_cons (f := 48) (args := #[.pointer (some ⟨w.heap.size + 1, 0, none⟩)]) (by simp) (by simp [go_sem]) ?_
  refine (catchB_panicking ⟨w.heap.size + 1, 0, none⟩ 0 _ (h1.cell rfl) (h1.frozen 0)).mono ?_
  rintro e u' w'' ⟨rfl, rfl, rfl⟩
  have k0 : Hold (u1.setCell ⟨w.heap.size + 1, 0, none⟩ (.int .i64 7)) w.heap.size 13 (blkV 0 (fun _ => 0) 0 0 (.slice none 0 0) false) := by rw [h1.setCell]; exact h0.other _ (by omega)
  have k1 : Hold (u1.setCell ⟨w.heap.size + 1, 0, none⟩ (.int .i64 7)) (w.heap.size + 1) 1 #[.int .i64 7] := by rw [h1.setCell]; exact h1.set _ rfl
  have k2 : Below w.heap.size w (u1.setCell ⟨w.heap.size + 1, 0, none⟩ (.int .i64 7)) := by rw [h1.setCell]; exact below_setRow hb (by omega) _
  generalize u1.setCell ⟨w.heap.size + 1, 0, none⟩ (.int .i64 7) = W9 at *
  obtain ⟨t, hg, hs⟩ := k0.heap
  have l1 : (loadVar 29 ⟨w.heap.size, 0, none⟩).run Tryz.prog W9 = .ok (.agg (blkV 0 (fun _ => 0) 0 0 (.slice none 0 0) false)) W9 := run_loadVar_row W9 _ t _ _ (0, 0) _ hg Tryz.underlying29 rfl (by kernel_rfl)
  have c1 := k1.cell (i := 0) rfl
  have l2 : (loadVar 30 ⟨w.heap.size + 1, 0, none⟩).run Tryz.prog W9 = .ok (.int .i64 7) W9 := by clear HC H0 H1 B0 HB h0 h1 hb k0 k1 k2 l1 hg hs; go_simp
  exact ⟨_, results_cellsU (p := 4) (q := 5) rfl _ _ _ _ _ _ rfl rfl l1 l2, rfl, k2⟩
set_option maxRecDepth 100000 in
set_option maxHeartbeats 4000000 in
theorem caughtB_yes (s : Value) (w : World) (G : Array Value → World → Prop) (hG : ∀ u W, G u W → u.size = 13 ∧ OneCells u) (hst : ∀ u W W', G u W → (∀ n, w.heap.size + 2 ≤ n → W'.heap[n]? = W.heap[n]?) → G u W')
    (C : Calls Tryz.prog 25 #[s] ((w.alloc (.cells zB 29)).alloc (.cells #[.int .i64 0] 30)) fun e w' => ∃ u, e = .returned (.agg u) ∧ G u w' ∧ Below ((w.alloc (.cells zB 29)).alloc (.cells #[.int .i64 0] 30)).heap.size ((w.alloc (.cells zB 29)).alloc (.cells #[.int .i64 0] 30)) w') :
    Calls Tryz.prog 24 #[.func (.func 25) #[] #[], s] w fun e w' => ∃ u, e = .returned (.tuple #[.agg u, .int .i64 0]) ∧ G u w' ∧ Below w.heap.size w w' := by
  have hmf : ∀ (fn : Fn) (first cap : Array Value) (w : World), (Instr.makeFunc fn first cap).run Tryz.prog w = .ok (.func fn first cap) w := fun _ _ _ _ => rfl
  have H0 := Lib.hid ((Hold.new w zB 29 13 rfl).past (.cells #[.int .i64 0] 30))
  have H1 := Lib.hid (Hold.new1 w (.cells zB 29) #[.int .i64 0] 30 1 rfl)
  have B0 := Lib.hid (((Below.refl w.heap.size w).alloc (Nat.le_refl _) (.cells zB 29)).alloc (by simp) (.cells #[.int .i64 0] 30))
  have HC := Lib.hid C
  have HGG := Lib.hid hG
  have HST := Lib.hid hst
  clear C hG hst
  have HZ : Hid (zB = blkV 0 (fun _ => 0) 0 0 (.slice none 0 0) false) := rfl
  rw [HZ.out] at HC H0 H1 B0
  go_enter_defers Tryz.func24, Tryz.ntmps24
  go_wp2_with (go_at_call 25; (with_reducible refine HC.out.mono ?_); rintro e u1 ⟨u, rfl, hg, hb⟩; obtain ⟨g1, g2⟩ := HGG.out _ _ hg; have HB := Lib.hid hb; have HG1 := Lib.hid hg; have s1 := run_storeBU (H0.out.call hb).ok (c' := u) g1 g2; have q1 := ((H1.out.call hb).other (m := w.heap.size) u (by omega)).cell (i := 0) rfl; have q2 := ((H1.out.call hb).other (m := w.heap.size) u (by omega)).frozen 0; have HU := Lib.hid g1; clear hb hg g1 g2)
  have h0 := (H0.out.call HB.out).set u HU.out
  have h1 := (H1.out.call HB.out).other (m := w.heap.size) u (by omega)
  have hb := below_setRow (B0.out.trans (HB.out.mono B0.out.size)) (Nat.le_refl _) u
  have k0 : Hold ((u1.setRow w.heap.size u).setCell ⟨w.heap.size + 1, 0, none⟩ (.int .i64 0)) w.heap.size 13 u := by rw [h1.setCell]; exact h0.other _ (by omega)
  have k1 : Hold ((u1.setRow w.heap.size u).setCell ⟨w.heap.size + 1, 0, none⟩ (.int .i64 0)) (w.heap.size + 1) 1 #[.int .i64 0] := by rw [h1.setCell]; exact h1.set _ rfl
  have k2 : Below w.heap.size w ((u1.setRow w.heap.size u).setCell ⟨w.heap.size + 1, 0, none⟩ (.int .i64 0)) := by rw [h1.setCell]; exact below_setRow hb (by omega) _
  have k3 : G u ((u1.setRow w.heap.size u).setCell ⟨w.heap.size + 1, 0, none⟩ (.int .i64 0)) := HST.out _ _ _ HG1.out fun n hn => by
    rw [h1.setCell]
    exact (setRow_other _ _ _ _ (by omega)).trans (setRow_other _ _ _ _ (by omega))
  generalize (u1.setRow w.heap.size u).setCell ⟨w.heap.size + 1, 0, none⟩ (.int .i64 0) = W9 at *
  refine leaves_cons (f := 48) (args := #[.pointer (some ⟨w.heap.size + 1, 0, none⟩)]) (by simp) (by simp [go_sem]) ?_
  refine (catchB_idle ⟨w.heap.size + 1, 0, none⟩ _).mono ?_
  rintro e u' w'' ⟨rfl, rfl, rfl⟩
  obtain ⟨t, hg, hs⟩ := k0.heap
  have l1 : (loadVar 29 ⟨w.heap.size, 0, none⟩).run Tryz.prog w'' = .ok (.agg u) w'' := run_loadVar_row w'' _ t _ _ (0, 0) _ hg Tryz.underlying29 rfl (by rw [hs]; kernel_rfl)
  have c1 := k1.cell (i := 0) rfl
  have l2 : (loadVar 30 ⟨w.heap.size + 1, 0, none⟩).run Tryz.prog w'' = .ok (.int .i64 0) w'' := by clear HC H0 H1 B0 HB h0 h1 hb k0 k1 k2 k3 l1 hg hs; go_simp
  exact ⟨_, results_cellsU (p := 4) (q := 5) rfl _ _ _ _ _ _ rfl rfl l1 l2, u, rfl, k3, k2⟩
end
end Go.Proofs.YtflgnhplbblokaaGreatDoor.Sn
end

section
namespace Go.Proofs.YtflgnhplbblokaaGreatDoor.Sn
open Go.RowKit Rw Cd Al Ln L64 Mk
set_option linter.unusedVariables false
set_option linter.unusedSimpArgs false
theorem blkV_congr {alg : Int} {h g : Nat → Nat} {hi lo : Nat} {s : Value} {fl : Bool} (e : ∀ i, i < 8 → h i = g i) : blkV alg h hi lo s fl = blkV alg g hi lo s fl := by
  unfold blkV
  rw [e 0 (by omega), e 1 (by omega), e 2 (by omega), e 3 (by omega), e 4 (by omega), e 5 (by omega), e 6 (by omega), e 7 (by omega)]
theorem words_heap {k : IntKind} {W W' : World} {B : Option Addr} {rs : List Nat} {b : Nat} (h : Words k W B rs) (hn : rs ≠ [] → ∀ a, B = some a → b ≤ a.block) (e : ∀ n, b ≤ n → W'.heap[n]? = W.heap[n]?) : Words k W' B rs := fun i hi => by
  obtain ⟨g, o, e2, hc⟩ := h i hi
  have hb : b ≤ g := hn (fun e => by rw [e] at hi; exact absurd hi (by simp)) ⟨g, o, none⟩ e2
  refine ⟨g, o, e2, ?_⟩
  rw [← hc]
  unfold World.cell?
  simp only [e g hb]
def GB (b : Nat) (xs : List Nat) (u : Array Value) (W : World) : Prop := ∃ B d, u = blkV (uA xs) (uH xs) (uHi xs) (uLo xs) (.slice B (uR xs).length d) (uFl xs) ∧ Words .u8 W B (uR xs) ∧ (uR xs ≠ [] → ∀ a, B = some a → b ≤ a.block)
theorem GB.stable {b : Nat} {xs : List Nat} {u : Array Value} {W W' : World} (h : GB b xs u W) (e : ∀ n, b ≤ n → W'.heap[n]? = W.heap[n]?) : GB b xs u W' := by
  obtain ⟨B, d, h1, h2, h3⟩ := h
  exact ⟨B, d, h1, words_heap h2 h3 e, h3⟩
theorem GB.ones {b : Nat} {xs : List Nat} {u : Array Value} {W : World} (h : GB b xs u W) : u.size = 13 ∧ OneCells u := by
  obtain ⟨B, d, rfl, -, -⟩ := h
  exact ⟨rfl, blkV_ones⟩
def erB (xs : List Nat) : Int := if isB xs then 0 else 7
theorem GB.nothing {b : Nat} {xs : List Nat} (h : isB xs = false) (W : World) : GB b xs zB W := by
  refine ⟨none, 0, ?_, ?_, ?_⟩
  · unfold uA uHi uLo uR uFl zB
    rw [h]
    exact blkV_congr (g := uH xs) fun i _ => by unfold uH; rw [h]; rfl
  · intro i hi
    unfold uR at hi
    rw [h] at hi
    exact absurd hi (by simp)
  · intro hn a e; cases e
theorem GB.told {xs : List Nat} (h : isB xs = true) {b : Nat} {B : Option Addr} {d : Nat} {W : World} (hw : Words .u8 W B (pR xs)) (hn : pR xs ≠ [] → ∀ a, B = some a → b ≤ a.block) :
    GB b xs (blkV (algU xs) (pH (mB (algU xs)) xs) (pHi xs) (pLo xs) (.slice B (pR xs).length d) (pFl xs)) W := by
  have e : uR xs = pR xs := by unfold uR; rw [h]; rfl
  refine ⟨B, d, ?_, by rw [e]; exact hw, by rw [e]; exact hn⟩
  unfold uA uHi uLo uR uFl
  rw [h]
  exact blkV_congr fun i _ => by unfold uH; rw [h]; rfl
theorem caughtB_any (A : Option Addr) (c : Nat) (xs : List Nat) (hx : AllLt 256 xs) (hlc : xs.length ≤ c) (hcm : c ≤ maxLen) (w : World) (hT : ATab w) (hw : Words .u8 w A xs) :
    Calls Tryz.prog 24 #[.func (.func 25) #[] #[], .slice A xs.length c] w fun e w' => ∃ u, e = .returned (.tuple #[.agg u, .int .i64 (erB xs)]) ∧ GB (w.heap.size + 2) xs u w' ∧ Below w.heap.size w w' := by
  have hb0 : Below w.heap.size w ((w.alloc (.cells zB 29)).alloc (.cells #[.int .i64 0] 30)) := ((Below.refl w.heap.size w).alloc (Nat.le_refl _) _).alloc (by simp) _
  have R := readBlock_any A c xs hx hlc hcm _ (hT.below hb0 (Nat.le_refl _)) (hw.below hb0 (Nat.le_refl _))
  unfold erB
  cases h : isB xs with
  | false =>
    rw [h] at R
    exact (caughtB_no _ w R).mono fun e w' k => by
      obtain ⟨rfl, k2⟩ := k
      exact ⟨zB, rfl, GB.nothing h w', k2⟩
  | true =>
    rw [h] at R
    refine caughtB_yes _ w (GB (w.heap.size + 2) xs) (fun u W k => k.ones) (fun u W W' k e => k.stable e) (R.mono fun e w' k => ?_)
    obtain ⟨⟨B, d, rfl, k1, k2⟩, k3⟩ := k
    exact ⟨_, rfl, GB.told h k1 (fun hn a e => by have := k2 hn a e; simp at this; omega), k3⟩
section
attribute [local go_sem ↓] loadB storeBU zeroBU
set_option maxRecDepth 100000 in
set_option maxHeartbeats 4000000 in
theorem block_core (er : Int) (s : Value) (w : World) (G : Array Value → World → Prop) (hG : ∀ u W, G u W → u.size = 13 ∧ OneCells u) (hst : ∀ u W W', G u W → (∀ n, w.heap.size + 1 ≤ n → W'.heap[n]? = W.heap[n]?) → G u W')
    (C : Calls Tryz.prog 24 #[.func (.func 25) #[] #[], s] (w.alloc (.cells zB 29)) fun e w' => ∃ u, e = .returned (.tuple #[.agg u, .int .i64 er]) ∧ G u w' ∧ Below (w.alloc (.cells zB 29)).heap.size (w.alloc (.cells zB 29)) w') :
    Calls Tryz.prog 9 #[s] w fun e w' => ∃ u, e = .returned (.tuple #[.agg u, .int .i64 er]) ∧ G u w' ∧ Below w.heap.size w w' := by
  have H0 := Lib.hid (Hold.new w zB 29 13 rfl)
  have B0 := Lib.hid ((Below.refl w.heap.size w).alloc (Nat.le_refl _) (.cells zB 29))
  have HC := Lib.hid C
  have HGG := Lib.hid hG
  have HST := Lib.hid hst
  clear C hG hst
  have HZ : Hid (zB = blkV 0 (fun _ => 0) 0 0 (.slice none 0 0) false) := rfl
  rw [HZ.out] at HC H0 B0
  go_enter Tryz.func9, Tryz.ntmps9
  go_wp2_with (go_at_call 24; (with_reducible refine HC.out.mono ?_); rintro e u1 ⟨u, rfl, hg, hb⟩; obtain ⟨g1, g2⟩ := HGG.out _ _ hg; have HB := Lib.hid hb; have HG1 := Lib.hid hg; have s1 := run_storeBU (H0.out.call hb).ok (c' := u) g1 g2; have HU := Lib.hid g1; clear hb hg g1 g2)
  refine row_tmp_ret (P := Tryz.prog) (n := w.heap.size) (k := 13) (c := u) rfl rfl rfl ((H0.out.call HB.out).set u HU.out) Tryz.underlying29 rfl (by kernel_rfl) rfl ⟨u, rfl, ?_, below_setRow (B0.out.trans (HB.out.mono B0.out.size)) (Nat.le_refl _) u⟩
  exact HST.out _ _ _ HG1.out fun n hn => setRow_other _ _ _ _ (by omega)
end
theorem blockU_any (A : Option Addr) (c : Nat) (xs : List Nat) (hx : AllLt 256 xs) (hlc : xs.length ≤ c) (hcm : c ≤ maxLen) (w : World) (hT : ATab w) (hw : Words .u8 w A xs) :
    Calls Tryz.prog 9 #[.slice A xs.length c] w fun e w' => ∃ u, e = .returned (.tuple #[.agg u, .int .i64 (erB xs)]) ∧ GB (w.heap.size + 1) xs u w' ∧ Below w.heap.size w w' := by
  have hb0 : Below w.heap.size w (w.alloc (.cells zB 29)) := (Below.refl w.heap.size w).alloc (Nat.le_refl _) _
  refine block_core _ _ w (GB (w.heap.size + 1) xs) (fun u W k => k.ones) (fun u W W' k e => k.stable e) ((caughtB_any A c xs hx hlc hcm _ (hT.below hb0 (Nat.le_refl _)) (hw.below hb0 (Nat.le_refl _))).mono fun e w' k => ?_)
  obtain ⟨u, rfl, ⟨B, d, h1, h2, h3⟩, k3⟩ := k
  exact ⟨u, rfl, ⟨B, d, h1, h2, fun hn a e => by have := h3 hn a e; simp at this; omega⟩, k3⟩
end Go.Proofs.YtflgnhplbblokaaGreatDoor.Sn
end

section
namespace Go.Proofs.YtflgnhplbblokaaGreatDoor.Sn
open Go.RowKit Rw Cd Al Ln L64 Mk
set_option linter.unusedVariables false
set_option linter.unusedSimpArgs false
section
attribute [local go_sem ↓] assertE errNil nilNil
set_option maxRecDepth 20000 in
theorem catchS_panicking (p : Addr) (x : Int) (w : World) (hc : w.cell? p = some (.int .i64 x)) (hz : w.frozen? p = false) :
    CallsD Tryz.prog 57 #[.pointer (some p)] (.panicking thrown) w fun e u' w' =>
      e = .returned (.tuple #[]) ∧ u' = .panicking caughtE ∧ w' = w.setCell p (.int .i64 7) := by
  refine callsD_of_wpS Tryz.func57 rfl fun c₀ cs hu => ?_
  apply wpS_seq
  apply wpS_region
  simp [wpOpsS, go_sem, recoverD, hu, thrown, Tryz.ntmps57, Exit.thenS]
  rw [show (#[Value.pointer (some p)] ++ ((Array.replicate 15 undef).setIfInBounds 3 (Value.iface 30 (Value.int IntKind.i64 7))).setIfInBounds 0 (Value.iface 30 (Value.int IntKind.i64 7))) =
    #[Value.pointer (some p), Value.iface 30 (Value.int IntKind.i64 7), undef, undef, Value.iface 30 (Value.int IntKind.i64 7), undef, undef, undef, undef, undef, undef, undef, undef, undef, undef, undef] from rfl]
  refine wpS_of_wp ?_
  obtain ⟨Q, hQ⟩ : ∃ Q : Exit → Act → List Frame → World → Prop, Q = bodyPostS Tryz.prog Tryz.f57 c₀ cs fun e u' w' => e = Ending.returned (Value.tuple #[]) ∧ u' = FrameMode.panicking caughtE ∧ w' = w.setCell p (Value.int IntKind.i64 7) := ⟨_, rfl⟩
  rw [← hQ]
  have HQ := Lib.hid hQ
  clear hQ
  go_wp2
  rw [HQ.out]
  exact ⟨rfl, .panicking caughtE, rfl, .tuple #[], by simp [results, Tryz.results57], rfl, rfl, rfl⟩
set_option maxRecDepth 20000 in
theorem catchS_idle (p : Addr) (w : World) :
    CallsD Tryz.prog 57 #[.pointer (some p)] .returning w fun e u' w' => e = .returned (.tuple #[]) ∧ u' = .returning ∧ w' = w := by
  refine callsD_of_wpS Tryz.func57 rfl fun c₀ cs hu => ?_
  apply wpS_seq
  apply wpS_region
  simp [wpOpsS, go_sem, recoverD, hu, Tryz.ntmps57, Exit.thenS]
  rw [show (#[Value.pointer (some p)] ++ ((Array.replicate 15 undef).setIfInBounds 3 Value.nilIface).setIfInBounds 0 Value.nilIface) =
    #[Value.pointer (some p), Value.nilIface, undef, undef, Value.nilIface, undef, undef, undef, undef, undef, undef, undef, undef, undef, undef, undef] from rfl]
  refine wpS_of_wp ?_
  obtain ⟨Q, hQ⟩ : ∃ Q : Exit → Act → List Frame → World → Prop, Q = bodyPostS Tryz.prog Tryz.f57 c₀ cs fun e u' w' => e = Ending.returned (Value.tuple #[]) ∧ u' = FrameMode.returning ∧ w' = w := ⟨_, rfl⟩
  rw [← hQ]
  have HQ := Lib.hid hQ
  clear hQ
  go_wp2
  rw [HQ.out]
  refine ⟨rfl, .returning, ?_, .tuple #[], by simp [results, Tryz.results57], rfl, rfl, rfl⟩
  cases c₀
  simp_all
end
section
attribute [local go_sem ↓] loadSp storeSU zeroSU
set_option maxRecDepth 100000 in
set_option maxHeartbeats 4000000 in
theorem caughtS_no (s : Value) (w : World) (C : Calls Tryz.prog 27 #[s] ((w.alloc (.cells zS 38)).alloc (.cells #[.int .i64 0] 30)) fun e w' => e = .panicked thrown ∧ Below ((w.alloc (.cells zS 38)).alloc (.cells #[.int .i64 0] 30)).heap.size ((w.alloc (.cells zS 38)).alloc (.cells #[.int .i64 0] 30)) w') :
    Calls Tryz.prog 26 #[.func (.func 27) #[] #[], s] w fun e w' => e = .returned (.tuple #[.agg zS, .int .i64 7]) ∧ Below w.heap.size w w' := by
  have hmf : ∀ (fn : Fn) (first cap : Array Value) (w : World), (Instr.makeFunc fn first cap).run Tryz.prog w = .ok (.func fn first cap) w := fun _ _ _ _ => rfl
  have H0 := Lib.hid ((Hold.new w zS 38 30 spV_size).past (.cells #[.int .i64 0] 30))
  have H1 := Lib.hid (Hold.new1 w (.cells zS 38) #[.int .i64 0] 30 1 rfl)
  have B0 := Lib.hid (((Below.refl w.heap.size w).alloc (Nat.le_refl _) (.cells zS 38)).alloc (by simp) (.cells #[.int .i64 0] 30))
  have HC := Lib.hid C
  clear C
  have HZ : Hid (zS = spV 0 (fun _ => 0) 0 false (.slice none 0 0) (.slice none 0 0)) := rfl
  rw [HZ.out] at HC H0 H1 B0 ⊢
  go_enter_defers Tryz.func26, Tryz.ntmps26
  go_wp2_with (go_at_call 27; (with_reducible refine HC.out.mono ?_); rintro e u1 ⟨rfl, hb⟩; have HB := Lib.hid hb; clear hb)
  have h0 := H0.out.call HB.out
  have h1 := H1.out.call HB.out
  have hb := B0.out.trans (HB.out.mono B0.out.size)
  refine leaves_cons (f := 57) (args := #[.pointer (some ⟨w.heap.size + 1, 0, none⟩)]) (by simp) (by simp [go_sem]) ?_
  refine (catchS_panicking ⟨w.heap.size + 1, 0, none⟩ 0 _ (h1.cell rfl) (h1.frozen 0)).mono ?_
  rintro e u' w'' ⟨rfl, rfl, rfl⟩
  have k0 : Hold (u1.setCell ⟨w.heap.size + 1, 0, none⟩ (.int .i64 7)) w.heap.size 30 (spV 0 (fun _ => 0) 0 false (.slice none 0 0) (.slice none 0 0)) := by rw [h1.setCell]; exact h0.other _ (by omega)
  have k1 : Hold (u1.setCell ⟨w.heap.size + 1, 0, none⟩ (.int .i64 7)) (w.heap.size + 1) 1 #[.int .i64 7] := by rw [h1.setCell]; exact h1.set _ rfl
  have k2 : Below w.heap.size w (u1.setCell ⟨w.heap.size + 1, 0, none⟩ (.int .i64 7)) := by rw [h1.setCell]; exact below_setRow hb (by omega) _
  generalize u1.setCell ⟨w.heap.size + 1, 0, none⟩ (.int .i64 7) = W9 at *
  obtain ⟨t, hg, hs⟩ := k0.heap
  have l1 : (loadVar 38 ⟨w.heap.size, 0, none⟩).run Tryz.prog W9 = .ok (.agg (spV 0 (fun _ => 0) 0 false (.slice none 0 0) (.slice none 0 0))) W9 := run_loadVar_row W9 _ t _ _ (0, 0) _ hg Tryz.underlying38 rfl (by kernel_rfl)
  have c1 := k1.cell (i := 0) rfl
  have l2 : (loadVar 30 ⟨w.heap.size + 1, 0, none⟩).run Tryz.prog W9 = .ok (.int .i64 7) W9 := by clear HC H0 H1 B0 HB h0 h1 hb k0 k1 k2 l1 hg hs; go_simp
  exact ⟨_, results_cellsU (p := 4) (q := 5) rfl _ _ _ _ _ _ rfl rfl l1 l2, rfl, k2⟩
set_option maxRecDepth 100000 in
set_option maxHeartbeats 4000000 in
theorem caughtS_yes (s : Value) (w : World) (G : Array Value → World → Prop) (hG : ∀ u W, G u W → u.size = 30 ∧ OneCells u) (hst : ∀ u W W', G u W → (∀ n, w.heap.size + 2 ≤ n → W'.heap[n]? = W.heap[n]?) → G u W')
    (C : Calls Tryz.prog 27 #[s] ((w.alloc (.cells zS 38)).alloc (.cells #[.int .i64 0] 30)) fun e w' => ∃ u, e = .returned (.agg u) ∧ G u w' ∧ Below ((w.alloc (.cells zS 38)).alloc (.cells #[.int .i64 0] 30)).heap.size ((w.alloc (.cells zS 38)).alloc (.cells #[.int .i64 0] 30)) w') :
    Calls Tryz.prog 26 #[.func (.func 27) #[] #[], s] w fun e w' => ∃ u, e = .returned (.tuple #[.agg u, .int .i64 0]) ∧ G u w' ∧ Below w.heap.size w w' := by
  have hmf : ∀ (fn : Fn) (first cap : Array Value) (w : World), (Instr.makeFunc fn first cap).run Tryz.prog w = .ok (.func fn first cap) w := fun _ _ _ _ => rfl
  have H0 := Lib.hid ((Hold.new w zS 38 30 spV_size).past (.cells #[.int .i64 0] 30))
  have H1 := Lib.hid (Hold.new1 w (.cells zS 38) #[.int .i64 0] 30 1 rfl)
  have B0 := Lib.hid (((Below.refl w.heap.size w).alloc (Nat.le_refl _) (.cells zS 38)).alloc (by simp) (.cells #[.int .i64 0] 30))
  have HC := Lib.hid C
  have HGG := Lib.hid hG
  have HST := Lib.hid hst
  clear C hG hst
  have HZ : Hid (zS = spV 0 (fun _ => 0) 0 false (.slice none 0 0) (.slice none 0 0)) := rfl
  rw [HZ.out] at HC H0 H1 B0
  go_enter_defers Tryz.func26, Tryz.ntmps26
  go_wp2_with (go_at_call 27; (with_reducible refine HC.out.mono ?_); rintro e u1 ⟨u, rfl, hg, hb⟩; obtain ⟨g1, g2⟩ := HGG.out _ _ hg; have HB := Lib.hid hb; have HG1 := Lib.hid hg; have s1 := run_storeSU (H0.out.call hb).ok (c' := u) g1 g2; have q1 := ((H1.out.call hb).other (m := w.heap.size) u (by omega)).cell (i := 0) rfl; have q2 := ((H1.out.call hb).other (m := w.heap.size) u (by omega)).frozen 0; have HU := Lib.hid g1; clear hb hg g1 g2)
  have h0 := (H0.out.call HB.out).set u HU.out
  have h1 := (H1.out.call HB.out).other (m := w.heap.size) u (by omega)
  have hb := below_setRow (B0.out.trans (HB.out.mono B0.out.size)) (Nat.le_refl _) u
  have k0 : Hold ((u1.setRow w.heap.size u).setCell ⟨w.heap.size + 1, 0, none⟩ (.int .i64 0)) w.heap.size 30 u := by rw [h1.setCell]; exact h0.other _ (by omega)
  have k1 : Hold ((u1.setRow w.heap.size u).setCell ⟨w.heap.size + 1, 0, none⟩ (.int .i64 0)) (w.heap.size + 1) 1 #[.int .i64 0] := by rw [h1.setCell]; exact h1.set _ rfl
  have k2 : Below w.heap.size w ((u1.setRow w.heap.size u).setCell ⟨w.heap.size + 1, 0, none⟩ (.int .i64 0)) := by rw [h1.setCell]; exact below_setRow hb (by omega) _
  have k3 : G u ((u1.setRow w.heap.size u).setCell ⟨w.heap.size + 1, 0, none⟩ (.int .i64 0)) := HST.out _ _ _ HG1.out fun n hn => by
    rw [h1.setCell]
    exact (setRow_other _ _ _ _ (by omega)).trans (setRow_other _ _ _ _ (by omega))
  generalize (u1.setRow w.heap.size u).setCell ⟨w.heap.size + 1, 0, none⟩ (.int .i64 0) = W9 at *
  refine leaves_cons (f := 57) (args := #[.pointer (some ⟨w.heap.size + 1, 0, none⟩)]) (by simp) (by simp [go_sem]) ?_
  refine (catchS_idle ⟨w.heap.size + 1, 0, none⟩ _).mono ?_
  rintro e u' w'' ⟨rfl, rfl, rfl⟩
  obtain ⟨t, hg, hs⟩ := k0.heap
  have l1 : (loadVar 38 ⟨w.heap.size, 0, none⟩).run Tryz.prog w'' = .ok (.agg u) w'' := run_loadVar_row w'' _ t _ _ (0, 0) _ hg Tryz.underlying38 rfl (by rw [hs]; kernel_rfl)
  have c1 := k1.cell (i := 0) rfl
  have l2 : (loadVar 30 ⟨w.heap.size + 1, 0, none⟩).run Tryz.prog w'' = .ok (.int .i64 0) w'' := by clear HC H0 H1 B0 HB h0 h1 hb k0 k1 k2 k3 l1 hg hs; go_simp
  exact ⟨_, results_cellsU (p := 4) (q := 5) rfl _ _ _ _ _ _ rfl rfl l1 l2, u, rfl, k3, k2⟩
end
def GP (b : Nat) (xs : List Nat) (u : Array Value) (W : World) : Prop := ∃ B1 d1 B2 d2, u = spV (vA xs) (vF xs) (vAt xs : Nat) (vFl xs) (.slice B1 (v1 xs).length d1) (.slice B2 (v2 xs).length d2) ∧ Words .u8 W B1 (v1 xs) ∧ Words .u8 W B2 (v2 xs) ∧ (v1 xs ≠ [] → ∀ a, B1 = some a → b ≤ a.block) ∧ (v2 xs ≠ [] → ∀ a, B2 = some a → b ≤ a.block)
theorem GP.stable {b : Nat} {xs : List Nat} {u : Array Value} {W W' : World} (h : GP b xs u W) (e : ∀ n, b ≤ n → W'.heap[n]? = W.heap[n]?) : GP b xs u W' := by
  obtain ⟨B1, d1, B2, d2, h1, h2, h3, h4, h5⟩ := h
  exact ⟨B1, d1, B2, d2, h1, words_heap h2 h4 e, words_heap h3 h5 e, h4, h5⟩
theorem GP.ones {b : Nat} {xs : List Nat} {u : Array Value} {W : World} (h : GP b xs u W) : u.size = 30 ∧ OneCells u := by
  obtain ⟨B1, d1, B2, d2, rfl, -, -⟩ := h
  exact ⟨spV_size, spV_ones⟩
def erP (xs : List Nat) : Int := if isP xs then 0 else 7
theorem spV_congr {alg p : Int} {f g : Nat → Nat} {rd : Bool} {s1 s2 : Value} (e : ∀ i, i < 25 → f i = g i) : spV alg f p rd s1 s2 = spV alg g p rd s1 s2 := by unfold spV; rw [uTab_congr e]
theorem GP.nothing {b : Nat} {xs : List Nat} (h : isP xs = false) (W : World) : GP b xs zS W := by
  have wnil : Words .u8 W none ([] : List Nat) := fun i hi => absurd hi (by simp)
  have e1 : v1 xs = [] := by unfold v1; rw [h]; rfl
  have e2 : v2 xs = [] := by unfold v2; rw [h]; rfl
  unfold GP
  rw [e1, e2]
  refine ⟨none, 0, none, 0, ?_, wnil, wnil, fun h => absurd rfl h, fun h => absurd rfl h⟩
  unfold vA vAt vFl zS
  rw [h]
  exact spV_congr (g := vF xs) fun i _ => by unfold vF; rw [h]; rfl
theorem caughtS_any (A : Option Addr) (c : Nat) (xs : List Nat) (hx : AllLt 256 xs) (hlc : xs.length ≤ c) (hcm : c ≤ maxLen) (hmax : xs.length ≤ 90000) (w : World) (hT : ATab w) (hw : Words .u8 w A xs) :
    Calls Tryz.prog 26 #[.func (.func 27) #[] #[], .slice A xs.length c] w fun e w' => ∃ u, e = .returned (.tuple #[.agg u, .int .i64 (erP xs)]) ∧ GP (w.heap.size + 2) xs u w' ∧ Below w.heap.size w w' := by
  have hb0 : Below w.heap.size w ((w.alloc (.cells zS 38)).alloc (.cells #[.int .i64 0] 30)) := ((Below.refl w.heap.size w).alloc (Nat.le_refl _) _).alloc (by simp) _
  have R := readSponge_any A c xs hx hlc hcm hmax _ (hT.below hb0 (Nat.le_refl _)) (hw.below hb0 (Nat.le_refl _))
  unfold erP
  cases h : isP xs with
  | false =>
    rw [h] at R
    exact (caughtS_no _ w R).mono fun e w' k => by
      obtain ⟨rfl, k2⟩ := k
      exact ⟨zS, rfl, GP.nothing h w', k2⟩
  | true =>
    rw [h] at R
    refine caughtS_yes _ w (GP (w.heap.size + 2) xs) (fun u W k => k.ones) (fun u W W' k e => k.stable e) (R.mono fun e w' k => ?_)
    obtain ⟨⟨B1, B2, ⟨d1, d2, rfl⟩, k1, k2, k4, k5⟩, k3⟩ := k
    have e1 : v1 xs = pN1 xs := by unfold v1; rw [h]; rfl
    have e2 : v2 xs = pN2 xs := by unfold v2; rw [h]; rfl
    refine ⟨_, rfl, ?_, k3⟩
    unfold GP
    rw [e1, e2]
    refine ⟨B1, d1, B2, d2, ?_, k1, k2, fun hn a e => by have := k4 hn a e; simp at this; omega, fun hn a e => by have := k5 hn a e; simp at this; omega⟩
    unfold vA vAt vFl
    rw [h]
    exact spV_congr fun i _ => by unfold vF; rw [h]; rfl
section
attribute [local go_sem ↓] loadSp storeSU zeroSU
set_option maxRecDepth 100000 in
set_option maxHeartbeats 4000000 in
theorem sponge_core (er : Int) (s : Value) (w : World) (G : Array Value → World → Prop) (hG : ∀ u W, G u W → u.size = 30 ∧ OneCells u) (hst : ∀ u W W', G u W → (∀ n, w.heap.size + 1 ≤ n → W'.heap[n]? = W.heap[n]?) → G u W')
    (C : Calls Tryz.prog 26 #[.func (.func 27) #[] #[], s] (w.alloc (.cells zS 38)) fun e w' => ∃ u, e = .returned (.tuple #[.agg u, .int .i64 er]) ∧ G u w' ∧ Below (w.alloc (.cells zS 38)).heap.size (w.alloc (.cells zS 38)) w') :
    Calls Tryz.prog 10 #[s] w fun e w' => ∃ u, e = .returned (.tuple #[.agg u, .int .i64 er]) ∧ G u w' ∧ Below w.heap.size w w' := by
  have H0 := Lib.hid (Hold.new w zS 38 30 spV_size)
  have B0 := Lib.hid ((Below.refl w.heap.size w).alloc (Nat.le_refl _) (.cells zS 38))
  have HC := Lib.hid C
  have HGG := Lib.hid hG
  have HST := Lib.hid hst
  clear C hG hst
  have HZ : Hid (zS = spV 0 (fun _ => 0) 0 false (.slice none 0 0) (.slice none 0 0)) := rfl
  rw [HZ.out] at HC H0 B0
  go_enter Tryz.func10, Tryz.ntmps10
  go_wp2_with (go_at_call 26; (with_reducible refine HC.out.mono ?_); rintro e u1 ⟨u, rfl, hg, hb⟩; obtain ⟨g1, g2⟩ := HGG.out _ _ hg; have HB := Lib.hid hb; have HG1 := Lib.hid hg; have s1 := run_storeSU (H0.out.call hb).ok (c' := u) g1 g2; have HU := Lib.hid g1; clear hb hg g1 g2)
  refine row_tmp_ret (P := Tryz.prog) (n := w.heap.size) (k := 30) (c := u) rfl rfl rfl ((H0.out.call HB.out).set u HU.out) Tryz.underlying38 rfl (by kernel_rfl) rfl ⟨u, rfl, ?_, below_setRow (B0.out.trans (HB.out.mono B0.out.size)) (Nat.le_refl _) u⟩
  exact HST.out _ _ _ HG1.out fun n hn => setRow_other _ _ _ _ (by omega)
end
theorem spongeU_any (A : Option Addr) (c : Nat) (xs : List Nat) (hx : AllLt 256 xs) (hlc : xs.length ≤ c) (hcm : c ≤ maxLen) (hmax : xs.length ≤ 90000) (w : World) (hT : ATab w) (hw : Words .u8 w A xs) :
    Calls Tryz.prog 10 #[.slice A xs.length c] w fun e w' => ∃ u, e = .returned (.tuple #[.agg u, .int .i64 (erP xs)]) ∧ GP (w.heap.size + 1) xs u w' ∧ Below w.heap.size w w' := by
  have hb0 : Below w.heap.size w (w.alloc (.cells zS 38)) := (Below.refl w.heap.size w).alloc (Nat.le_refl _) _
  refine sponge_core _ _ w (GP (w.heap.size + 1) xs) (fun u W k => k.ones) (fun u W W' k e => k.stable e) ((caughtS_any A c xs hx hlc hcm hmax _ (hT.below hb0 (Nat.le_refl _)) (hw.below hb0 (Nat.le_refl _))).mono fun e w' k => ?_)
  obtain ⟨u, rfl, ⟨B1, d1, B2, d2, h1, h2, h3, h4, h5⟩, k3⟩ := k
  exact ⟨u, rfl, ⟨B1, d1, B2, d2, h1, h2, h3, (fun hn a e => by have := h4 hn a e; simp at this; omega), (fun hn a e => by have := h5 hn a e; simp at this; omega)⟩, k3⟩
end Go.Proofs.YtflgnhplbblokaaGreatDoor.Sn
end

section
namespace Go.Proofs.YtflgnhplbblokaaGreatDoor.Sn
open Go.RowKit Rw Cd Al Ln L64 Mk
set_option linter.unusedVariables false
set_option linter.unusedSimpArgs false
theorem erB_yes {xs : List Nat} (h : isB xs = true) : erB xs = 0 := by unfold erB; rw [h]; rfl
theorem erB_no {xs : List Nat} (h : isB xs = false) : erB xs = 7 := by unfold erB; rw [h]; rfl
theorem erP_yes {xs : List Nat} (h : isP xs = true) : erP xs = 0 := by unfold erP; rw [h]; rfl
theorem erP_no {xs : List Nat} (h : isP xs = false) : erP xs = 7 := by unfold erP; rw [h]; rfl
theorem row_caps {k : IntKind} {t : TypeId} {base n c : Nat} {w : World} {A : Option Addr} {ys : List Nat} (hr : Row k t base w (.slice A n c) ys) : ys.length ≤ c ∧ c ≤ maxLen := by
  constructor
  · rcases hr.2 with ⟨e0, h0⟩ | ⟨g, cap, cur, e0, hbg, hg, hn, hm, _⟩
    · rw [h0]; exact Nat.zero_le _
    · injection e0 with _ e2 e3; subst e3; exact hn
  · rcases hr.2 with ⟨e0, h0⟩ | ⟨g, cap, cur, e0, hbg, hg, hn, hm, _⟩
    · injection e0 with _ e2 e3; subst e3; exact Nat.zero_le _
    · injection e0 with _ e2 e3; subst e3; exact hm
section
attribute [local go_sem ↓] loadB storeBU zeroBU loadSp storeSU zeroSU
set_option maxRecDepth 100000 in
set_option maxHeartbeats 2000000 in
theorem is_core (b1 b2 : Bool) (e1 e2 : Int) (s : Value) (w : World) (h1 : (e1 == 0) = b1) (h2 : (e2 == 0) = b2)
    (C1 : ∀ W, Below w.heap.size w W → Calls Tryz.prog 9 #[s] W fun e w' => ∃ u, e = .returned (.tuple #[.agg u, .int .i64 e1]) ∧ (u.size = 13 ∧ OneCells u) ∧ Below W.heap.size W w')
    (C2 : ∀ W, Below w.heap.size w W → Calls Tryz.prog 10 #[s] W fun e w' => ∃ u, e = .returned (.tuple #[.agg u, .int .i64 e2]) ∧ (u.size = 30 ∧ OneCells u) ∧ Below W.heap.size W w') :
    Calls Tryz.prog 17 #[s] w fun e w' => e = .returned (.bool (b1 || b2)) ∧ Below w.heap.size w w' := by
  have D1 := Lib.hid C1
  have D2 := Lib.hid C2
  have HB := Lib.hid (Below.refl w.heap.size w)
  clear C1 C2
  cases b1 with
  | true =>
    go_enter Tryz.func17, Tryz.ntmps17
    go_wp2_with (first
      | (go_at_call 9
         (with_reducible refine (D1.out _ HB.out).mono ?_)
         rintro e u1 ⟨u, rfl, ⟨g1, g2⟩, hb⟩
         have s1 := run_storeBU (Hold.new u1 (blkV 0 (fun _ => 0) 0 0 (.slice none 0 0) false) 29 13 rfl).ok (c' := u) g1 g2
         have hb2 := HB.out.trans (hb.mono HB.out.size)
         have HB1 := Lib.hid (hb2.alloc hb2.size (.cells u 29))
         clear hb hb2 g1 g2)
      | (go_at_call 10
         (with_reducible refine (D2.out _ HB1.out).mono ?_)
         rintro e u2 ⟨v, rfl, ⟨g1, g2⟩, hb⟩
         have s2 := run_storeSU (Hold.new u2 (spV 0 (fun _ => 0) 0 false (.slice none 0 0) (.slice none 0 0)) 38 30 spV_size).ok (c' := v) g1 g2
         have hb2 := HB1.out.trans (hb.mono HB1.out.size)
         have HB2 := Lib.hid (hb2.alloc hb2.size (.cells v 38))
         clear hb hb2 g1 g2))
    go_ret
    exact ⟨rfl, HB2.out⟩
  | false =>
    go_enter Tryz.func17, Tryz.ntmps17
    go_wp2_with (first
      | (go_at_call 9
         (with_reducible refine (D1.out _ HB.out).mono ?_)
         rintro e u1 ⟨u, rfl, ⟨g1, g2⟩, hb⟩
         have s1 := run_storeBU (Hold.new u1 (blkV 0 (fun _ => 0) 0 0 (.slice none 0 0) false) 29 13 rfl).ok (c' := u) g1 g2
         have hb2 := HB.out.trans (hb.mono HB.out.size)
         have HB1 := Lib.hid (hb2.alloc hb2.size (.cells u 29))
         clear hb hb2 g1 g2)
      | (go_at_call 10
         (with_reducible refine (D2.out _ HB1.out).mono ?_)
         rintro e u2 ⟨v, rfl, ⟨g1, g2⟩, hb⟩
         have s2 := run_storeSU (Hold.new u2 (spV 0 (fun _ => 0) 0 false (.slice none 0 0) (.slice none 0 0)) 38 30 spV_size).ok (c' := v) g1 g2
         have hb2 := HB1.out.trans (hb.mono HB1.out.size)
         have HB2 := Lib.hid (hb2.alloc hb2.size (.cells v 38))
         clear hb hb2 g1 g2))
    go_ret
    exact ⟨by rw [← h2]; rfl, HB2.out⟩
end
theorem isU_any (A : Option Addr) (c : Nat) (xs : List Nat) (hx : AllLt 256 xs) (hlc : xs.length ≤ c) (hcm : c ≤ maxLen) (hmax : xs.length ≤ 90000) (w : World) (hT : ATab w) (hw : Words .u8 w A xs) :
    Calls Tryz.prog 17 #[.slice A xs.length c] w fun e w' => e = .returned (.bool (isU xs)) ∧ Below w.heap.size w w' := by
  refine is_core (isB xs) (isP xs) (erB xs) (erP xs) _ w ?_ ?_ (fun W hb => (blockU_any A c xs hx hlc hcm W (hT.below hb (Nat.le_refl _)) (hw.below hb (Nat.le_refl _))).mono fun e w' k => ?_) (fun W hb => (spongeU_any A c xs hx hlc hcm hmax W (hT.below hb (Nat.le_refl _)) (hw.below hb (Nat.le_refl _))).mono fun e w' k => ?_)
  · unfold erB; cases isB xs <;> rfl
  · unfold erP; cases isP xs <;> rfl
  · obtain ⟨u, h1, h2, h3⟩ := k
    exact ⟨u, h1, h2.ones, h3⟩
  · obtain ⟨u, h1, h2, h3⟩ := k
    exact ⟨u, h1, h2.ones, h3⟩
def exB : List Nat := spgB 8 (kdN (idx (8 : Nat))) (fun _ => 0) 5 false [] []
theorem ex_right : right20 (kdN (idx (8 : Nat))) (bkN (idx (8 : Nat))) (5 : Nat) false ([] : List Nat).length ([] : List Nat).length = true := by decide
theorem ex_isP : isP exB = true := isP_spg (fun _ => by omega) ex_right
theorem ex_at : vAt exB = 5 := by
  unfold vAt
  rw [ex_isP]
  exact (told_spg (a := 8) (by omega) (by omega) (f := fun _ => 0) (fun _ => by omega) (p := 5) (rd := false) (x1 := []) (x2 := []) (right20_spec ex_right).2.2.2).at'
theorem exB_len : exB.length = 207 := by unfold exB; rw [spgB_len]; decide
theorem isB_nil : isB [] = false := by
  cases h : isB []
  · rfl
  · have := (isB_spec h).len
    simp at this
    omega
theorem run_bsS2 (a p : Int) (W : World) : (bsem 38 #[(0, .int .i64 a), (2, .int .i64 p)]).run Tryz.prog W = .ok (.agg (spV a (fun _ => 0) p false (.slice none 0 0) (.slice none 0 0))) W := run_build W 38 _ _ (by kernel_rfl)
section
attribute [local go_sem ↓] loadB storeBU zeroBU loadSp storeSU zeroSU bsSU
attribute [local go_sem] run_bsS2
set_option maxRecDepth 100000 in
set_option maxHeartbeats 2000000 in
theorem wakes21_any (w : World) (hT : ATab w) : Calls Tryz.prog 8 #[] w fun e w' => e = .returned (.bool true) ∧ Below w.heap.size w w' := by
  have wnil : ∀ W, Words .u8 W none ([] : List Nat) := fun W i hi => absurd hi (by simp)
  have D1 : Hid (∀ W, Below w.heap.size w W → Calls Tryz.prog 9 #[.slice none 0 0] W fun e w' => ∃ u, e = .returned (.tuple #[.agg u, .int .i64 7]) ∧ (u.size = 13 ∧ OneCells u) ∧ Below W.heap.size W w') := fun W hb => by
    have := blockU_any none 0 [] (fun x hx => by cases hx) (Nat.le_refl _) (by unfold maxLen; omega) W (hT.below hb (Nat.le_refl _)) (wnil W)
    rw [erB_no isB_nil] at this
    exact this.mono fun e w' k => by
      obtain ⟨u, h1, h2, h3⟩ := k
      exact ⟨u, h1, h2.ones, h3⟩
  have D2 : Hid (∀ W, Below w.heap.size w W → Calls Tryz.prog 20 #[.agg (spV 8 (fun _ => 0) 5 false (.slice none 0 0) (.slice none 0 0))] W fun e w' => ∃ A c, e = .returned (.tuple #[.slice A 207 c, .int .i64 0]) ∧ (207 ≤ c ∧ c ≤ maxLen) ∧ Words .u8 w' A exB ∧ Below W.heap.size W w') := fun W hb => by
    have := snapSponge_yes 8 (fun _ => 0) (fun _ => by omega) 5 false none 0 [] none 0 [] (fun x hx => by cases hx) (fun x hx => by cases hx) W (hT.below hb (Nat.le_refl _)) (wnil W) (wnil W) ex_right
    exact this.mono fun e w' k => by
      obtain ⟨A, c, rfl, k1, k2, k3⟩ := k
      have hcap := row_caps k1
      rw [show (spgB 8 (kdN (idx (8 : Nat))) (fun _ => 0) 5 false [] []).length = 207 from exB_len] at hcap ⊢
      exact ⟨A, c, rfl, hcap, k2, k3⟩
  have D3 : Hid (∀ W A c, Below w.heap.size w W → (207 ≤ c ∧ c ≤ maxLen) → Words .u8 W A exB → Calls Tryz.prog 10 #[.slice A 207 c] W fun e w' => ∃ u, e = .returned (.tuple #[.agg u, .int .i64 0]) ∧ (u.size = 30 ∧ OneCells u) ∧ u[26]? = some (.int .i64 5) ∧ Below W.heap.size W w') := fun W A c hb hc hw => by
    have := spongeU_any A c exB (spgB_lt (by omega) (by omega) (fun x hx => by cases hx) (fun x hx => by cases hx) (by simp) (by simp)) (by rw [exB_len]; exact hc.1) hc.2 (by rw [exB_len]; omega) W (hT.below hb (Nat.le_refl _)) hw
    rw [erP_yes ex_isP, exB_len] at this
    exact this.mono fun e w' k => by
      obtain ⟨u, h1, h2, h3⟩ := k
      refine ⟨u, h1, h2.ones, ?_, h3⟩
      obtain ⟨B1, d1, B2, d2, rfl, -⟩ := h2
      rw [ex_at]
      exact spV_26
  have HB := Lib.hid (Below.refl w.heap.size w)
  clear hT wnil
  go_enter Tryz.func8, Tryz.ntmps8
  go_wp2_with (first
    | (go_at_call 9
       (with_reducible refine (D1.out _ HB.out).mono ?_)
       rintro e u1 ⟨u, rfl, ⟨g1, g2⟩, hb⟩
       have s1 := run_storeBU (Hold.new u1 (blkV 0 (fun _ => 0) 0 0 (.slice none 0 0) false) 29 13 rfl).ok (c' := u) g1 g2
       have hb2 := HB.out.trans (hb.mono HB.out.size)
       have HB1 := Lib.hid (hb2.alloc hb2.size (.cells u 29))
       clear hb hb2 g1 g2)
    | (go_at_call 20
       (with_reducible refine (D2.out _ HB1.out).mono ?_)
       rintro e u2 ⟨A, c, rfl, hc, hw, hb⟩
       have HC := Lib.hid hc
       have HW := Lib.hid hw
       have HB2 := Lib.hid (HB1.out.trans (hb.mono HB1.out.size))
       clear hb hc hw)
    | (go_at_call 10
       (with_reducible refine (D3.out _ _ _ HB2.out HC.out HW.out).mono ?_)
       rintro e u3 ⟨v, rfl, ⟨g1, g2⟩, g3, hb⟩
       have s2 := run_storeSU (Hold.new u3 (spV 0 (fun _ => 0) 0 false (.slice none 0 0) (.slice none 0 0)) 38 30 spV_size).ok (c' := v) g1 g2
       have q1 : (u3.alloc (.cells v 38)).cell? ⟨u3.heap.size, 26, none⟩ = some (.int .i64 5) := (Hold.new u3 v 38 30 g1).cell g3
       have hb2 := HB2.out.trans (hb.mono HB2.out.size)
       have HB3 := Lib.hid (hb2.alloc hb2.size (.cells v 38))
       clear hb hb2 g1 g2 g3))
  go_ret
  exact ⟨rfl, HB3.out⟩
end
end Go.Proofs.YtflgnhplbblokaaGreatDoor.Sn
end
