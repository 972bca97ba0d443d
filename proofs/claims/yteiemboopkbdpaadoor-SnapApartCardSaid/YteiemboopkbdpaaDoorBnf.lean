/- Layers 11 and 20: are two states the same? | Layer 20's statements: SnapBlocks. | Layer 20's statements: SnapSizes, SnapSponges. | Layer 20's statements: SnapSponges. | Layer 20's statements: SnapFlags. | States of sponges and of hashes of blocks by value (api.Sponge, api.Block), handed in, alone or within a struct: opened. | Layer 20: unlike states have unlike snapshots. -/
import Derived.Test.YteiemboopkbdpaaDoorBne
import Derived.Test.YteiemboopkbdpaaDoorBnd
import Derived.Test.YteiemboopkbdpaaDoorBnc
import Derived.Test.YteiemboopkbdpaaDoorBnb
section
namespace Go.Proofs.YteiemboopkbdpaaDoor.Sn
open Go.RowKit Rw Mk Cd L64 Al
set_option linter.unusedVariables false
set_option linter.unusedSimpArgs false
def eqN (n : Nat) (f g : Nat → Nat) : Bool := (List.range n).all fun i => ((f i : Nat) : Int) == ((g i : Nat) : Int)
theorem eqN_iff (n : Nat) (f g : Nat → Nat) : eqN n f g = true ↔ ∀ i, i < n → f i = g i := by
  unfold eqN
  rw [List.all_eq_true]
  constructor
  · intro k i hi
    have := k i (List.mem_range.2 hi)
    rw [beq_iff_eq] at this
    omega
  · intro k i hi
    have := k i (List.mem_range.1 hi)
    rw [beq_iff_eq]
    omega
theorem equalIn8 (h g : Nat → Nat) (W : World) : (Op.equalIn 10000 23 (.agg (uTab 8 h)) (.agg (uTab 8 g))).run Tryd.prog W = .ok (eqN 8 h g) W := by
  obtain ⟨i0, hi0⟩ : ∃ i, Tryd.prog.info? 22 = some i := Option.isSome_iff_exists.1 (by kernel_rfl)
  exact equalIn_arrs (P := Tryd.prog) (k := .u64) W Tryd.underlying23 Tryd.underlying22 hi0 (by kernel_rfl) (fun i => ((h i : Nat) : Int)) (fun i => ((g i : Nat) : Int)) (n := 8)
section
attribute [local go_sem ↓] load8k
set_option maxRecDepth 100000 in
set_option maxHeartbeats 4000000 in
theorem same11_core (alg alg' : Int) (h h' : Nat → Nat) (hi lo hi' lo' : Nat) (s s' : Value) (fl fl' : Bool) (u u' : Array Value) (b1 b2 b3 b4 b5 : Bool) (w : World) (hu : u.size = 13) (hu' : u'.size = 13)
    (k0 : u[0]? = some (.int .i64 alg)) (k11 : u[11]? = some s) (k12 : u[12]? = some (.bool fl)) (k0' : u'[0]? = some (.int .i64 alg')) (k11' : u'[11]? = some s') (k12' : u'[12]? = some (.bool fl'))
    (kc : ∀ W n, Hold W n 13 u → (loadRow 25 (.pointer (some ⟨n, 9, none⟩))).run Tryd.prog W = .ok (.agg #[.int .u64 (hi : Nat), .int .u64 (lo : Nat)]) W) (kh : ∀ W n, Hold W n 13 u → (loadRow 23 (.pointer (some ⟨n, 1, none⟩))).run Tryd.prog W = .ok (.agg (uTab 8 h)) W)
    (kc' : ∀ W n, Hold W n 13 u' → (loadRow 25 (.pointer (some ⟨n, 9, none⟩))).run Tryd.prog W = .ok (.agg #[.int .u64 (hi' : Nat), .int .u64 (lo' : Nat)]) W) (kh' : ∀ W n, Hold W n 13 u' → (loadRow 23 (.pointer (some ⟨n, 1, none⟩))).run Tryd.prog W = .ok (.agg (uTab 8 h')) W)
    (e1 : (alg == alg') = b1) (e2 : ∀ W, (Op.equalIn 10000 23 (.agg (uTab 8 h)) (.agg (uTab 8 h'))).run Tryd.prog W = .ok b2 W) (e3 : eqC (hi : Nat) (lo : Nat) (hi' : Nat) (lo' : Nat) = b3) (e4 : (fl == fl') = b4)
    (C5 : ∀ W, Below w.heap.size w W → Calls Tryd.prog 11 #[s, s'] W fun e w' => e = .returned (.bool b5) ∧ Below W.heap.size W w') :
    Calls Tryd.prog 44 #[.agg u, .agg u'] w fun e w' => e = .returned (.bool (b1 && (b2 && (b3 && (b4 && b5))))) ∧ Below w.heap.size w w' := by
  have hH := (Hold.new w u 28 13 hu).past (.cells u' 28)
  have hH' := Hold.new1 w (.cells u 28) u' 28 13 hu'
  have hb := ((Below.refl _ w).alloc (Nat.le_refl _) (.cells u 28)).alloc (by simp) (.cells u' 28)
  obtain ⟨U, hU⟩ : ∃ U, U = (w.alloc (.cells u 28)).alloc (.cells u' 28) := ⟨_, rfl⟩
  have q0 := hH.cell k0
  have q1 := hH.cell k11
  have q2 := hH.cell k12
  have q3 := hH'.cell k0'
  have q4 := hH'.cell k11'
  have q5 := hH'.cell k12'
  have q6 := kc _ _ hH
  have q7 := kh _ _ hH
  have q8 := kc' _ _ hH'
  have q9 := kh' _ _ hH'
  have HB := Lib.hid hb
  have D5 := Lib.hid C5
  clear hH hH' hb hU C5 kc kh kc' kh' k0 k11 k12 k0' k11' k12' hu hu'
  cases b1 with
  | false =>
    go_enter Tryd.func44, Tryd.ntmps44
    go_wp2_with (go_at_call 11; (with_reducible refine (D5.out _ HB.out).mono ?_); rintro e u1 ⟨rfl, hb⟩; replace HB := Lib.hid (HB.out.trans (hb.mono HB.out.size)); clear hb)
    go_ret
    refine ⟨?_, HB.out⟩
    simp
  | true =>
    cases b2 with
    | false =>
      go_enter Tryd.func44, Tryd.ntmps44
      go_wp2_with (go_at_call 11; (with_reducible refine (D5.out _ HB.out).mono ?_); rintro e u1 ⟨rfl, hb⟩; replace HB := Lib.hid (HB.out.trans (hb.mono HB.out.size)); clear hb)
      go_ret
      refine ⟨?_, HB.out⟩
      simp
    | true =>
      cases b3 with
      | false =>
        go_enter Tryd.func44, Tryd.ntmps44
        go_wp2_with (go_at_call 11; (with_reducible refine (D5.out _ HB.out).mono ?_); rintro e u1 ⟨rfl, hb⟩; replace HB := Lib.hid (HB.out.trans (hb.mono HB.out.size)); clear hb)
        go_ret
        refine ⟨?_, HB.out⟩
        simp
      | true =>
        cases b4 with
        | false =>
          go_enter Tryd.func44, Tryd.ntmps44
          go_wp2_with (go_at_call 11; (with_reducible refine (D5.out _ HB.out).mono ?_); rintro e u1 ⟨rfl, hb⟩; replace HB := Lib.hid (HB.out.trans (hb.mono HB.out.size)); clear hb)
          go_ret
          refine ⟨?_, HB.out⟩
          simp
        | true =>
          go_enter Tryd.func44, Tryd.ntmps44
          go_wp2_with (go_at_call 11; (with_reducible refine (D5.out _ HB.out).mono ?_); rintro e u1 ⟨rfl, hb⟩; replace HB := Lib.hid (HB.out.trans (hb.mono HB.out.size)); clear hb)
          go_ret
          refine ⟨?_, HB.out⟩
          simp
end
def same11 (alg alg' : Int) (h h' : Nat → Nat) (hi lo hi' lo' : Nat) (xs xs' : List Nat) (fl fl' : Bool) : Bool := (alg == alg') && (eqN 8 h h' && (eqC (hi : Nat) (lo : Nat) (hi' : Nat) (lo' : Nat) && ((fl == fl') && sameB xs xs')))
theorem refSame11_any (alg alg' : Int) (h h' : Nat → Nat) (hi lo hi' lo' : Nat) (A : Option Addr) (c : Nat) (xs : List Nat) (A' : Option Addr) (c' : Nat) (xs' : List Nat) (fl fl' : Bool) (w : World) (hx : AllLt 256 xs) (hx' : AllLt 256 xs') (l : xs.length ≤ 1000000) (l' : xs'.length ≤ 1000000) (hw : Words .u8 w A xs) (hw' : Words .u8 w A' xs') :
    Calls Tryd.prog 44 #[.agg (blkV alg h hi lo (.slice A xs.length c) fl), .agg (blkV alg' h' hi' lo' (.slice A' xs'.length c') fl')] w fun e w' => e = .returned (.bool (same11 alg alg' h h' hi lo hi' lo' xs xs' fl fl')) ∧ Below w.heap.size w w' :=
  same11_core alg alg' h h' hi lo hi' lo' _ _ fl fl' _ _ _ _ _ _ _ w rfl rfl rfl rfl rfl rfl rfl rfl (fun _ _ H => blk_count H) (fun _ _ H => blk_hs H) (fun _ _ H => blk_count H) (fun _ _ H => blk_hs H) rfl (fun W => equalIn8 h h' W) rfl rfl
    (fun W hb => Cd.same_any xs xs' hx hx' l l' W A c A' c' (hw.below hb (Nat.le_refl _)) (hw'.below hb (Nat.le_refl _)))
theorem equalIn25 (h g : Nat → Nat) (W : World) : (Op.equalIn 10000 40 (.agg (uTab 25 h)) (.agg (uTab 25 g))).run Tryd.prog W = .ok (eqN 25 h g) W := by
  obtain ⟨i0, hi0⟩ : ∃ i, Tryd.prog.info? 22 = some i := Option.isSome_iff_exists.1 (by kernel_rfl)
  exact equalIn_arrs (P := Tryd.prog) (k := .u64) W Tryd.underlying40 Tryd.underlying22 hi0 (by kernel_rfl) (fun i => ((h i : Nat) : Int)) (fun i => ((g i : Nat) : Int)) (n := 25)
set_option maxRecDepth 100000 in
set_option maxHeartbeats 4000000 in
theorem same20_core (alg alg' : Int) (f f' : Nat → Nat) (p p' : Int) (rd rd' : Bool) (s1 s2 s1' s2' : Value) (u u' : Array Value) (b1 b2 b3 b4 b5 : Bool) (w : World) (hu : u.size = 30) (hu' : u'.size = 30)
    (k0 : u[0]? = some (.int .i64 alg)) (k26 : u[26]? = some (.int .i64 p)) (k27 : u[27]? = some (.bool rd)) (k28 : u[28]? = some s1) (k29 : u[29]? = some s2)
    (k0' : u'[0]? = some (.int .i64 alg')) (k26' : u'[26]? = some (.int .i64 p')) (k27' : u'[27]? = some (.bool rd')) (k28' : u'[28]? = some s1') (k29' : u'[29]? = some s2')
    (kh : ∀ W n, Hold W n 30 u → (loadRow 40 (.pointer (some ⟨n, 1, none⟩))).run Tryd.prog W = .ok (.agg (uTab 25 f)) W) (kh' : ∀ W n, Hold W n 30 u' → (loadRow 40 (.pointer (some ⟨n, 1, none⟩))).run Tryd.prog W = .ok (.agg (uTab 25 f')) W)
    (e1 : (alg == alg') = b1) (e2 : ∀ W, (Op.equalIn 10000 40 (.agg (uTab 25 f)) (.agg (uTab 25 f'))).run Tryd.prog W = .ok b2 W) (e3 : (p == p') = b3) (e4 : (rd == rd') = b4)
    (C5 : ∀ W, Below w.heap.size w W → Calls Tryd.prog 61 #[.agg #[s1, s2], .agg #[s1', s2']] W fun e w' => e = .returned (.bool b5) ∧ Below W.heap.size W w') :
    Calls Tryd.prog 43 #[.agg u, .agg u'] w fun e w' => e = .returned (.bool (b1 && (b2 && (b3 && (b4 && b5))))) ∧ Below w.heap.size w w' := by
  have hH := (Hold.new w u 42 30 hu).past (.cells u' 42)
  have hH' := Hold.new1 w (.cells u 42) u' 42 30 hu'
  have hb := ((Below.refl _ w).alloc (Nat.le_refl _) (.cells u 42)).alloc (by simp) (.cells u' 42)
  have q0 := hH.cell k0
  have q1 := hH.cell k26
  have q2 := hH.cell k27
  have q3 := hH.cell k28
  have q4 := hH.cell k29
  have r0 := hH'.cell k0'
  have r1 := hH'.cell k26'
  have r2 := hH'.cell k27'
  have r3 := hH'.cell k28'
  have r4 := hH'.cell k29'
  have q7 := kh _ _ hH
  have q9 := kh' _ _ hH'
  have HB := Lib.hid hb
  have D5 := Lib.hid C5
  clear hH hH' hb C5 kh kh' k0 k26 k27 k28 k29 k0' k26' k27' k28' k29' hu hu'
  cases b1 with
  | false =>
    go_enter Tryd.func43, Tryd.ntmps43
    go_wp2_with (go_at_call 61; (with_reducible refine (D5.out _ HB.out).mono ?_); rintro e u1 ⟨rfl, hb⟩; replace HB := Lib.hid (HB.out.trans (hb.mono HB.out.size)); clear hb)
    go_ret
    refine ⟨?_, HB.out⟩
    simp
  | true =>
    cases b2 with
    | false =>
      go_enter Tryd.func43, Tryd.ntmps43
      go_wp2_with (go_at_call 61; (with_reducible refine (D5.out _ HB.out).mono ?_); rintro e u1 ⟨rfl, hb⟩; replace HB := Lib.hid (HB.out.trans (hb.mono HB.out.size)); clear hb)
      go_ret
      refine ⟨?_, HB.out⟩
      simp
    | true =>
      cases b3 with
      | false =>
        go_enter Tryd.func43, Tryd.ntmps43
        go_wp2_with (go_at_call 61; (with_reducible refine (D5.out _ HB.out).mono ?_); rintro e u1 ⟨rfl, hb⟩; replace HB := Lib.hid (HB.out.trans (hb.mono HB.out.size)); clear hb)
        go_ret
        refine ⟨?_, HB.out⟩
        simp
      | true =>
        cases b4 with
        | false =>
          go_enter Tryd.func43, Tryd.ntmps43
          go_wp2_with (go_at_call 61; (with_reducible refine (D5.out _ HB.out).mono ?_); rintro e u1 ⟨rfl, hb⟩; replace HB := Lib.hid (HB.out.trans (hb.mono HB.out.size)); clear hb)
          go_ret
          refine ⟨?_, HB.out⟩
          simp
        | true =>
          go_enter Tryd.func43, Tryd.ntmps43
          go_wp2_with (go_at_call 61; (with_reducible refine (D5.out _ HB.out).mono ?_); rintro e u1 ⟨rfl, hb⟩; replace HB := Lib.hid (HB.out.trans (hb.mono HB.out.size)); clear hb)
          go_ret
          refine ⟨?_, HB.out⟩
          simp
def same20 (alg alg' : Int) (f f' : Nat → Nat) (p p' : Int) (rd rd' : Bool) (xs1 xs2 ys1 ys2 : List Nat) : Bool := (alg == alg') && (eqN 25 f f' && ((p == p') && ((rd == rd') && (sameB xs1 ys1 && sameB xs2 ys2))))
theorem refSame20_any (alg alg' : Int) (f f' : Nat → Nat) (p p' : Int) (rd rd' : Bool) (A1 : Option Addr) (c1 : Nat) (xs1 : List Nat) (A2 : Option Addr) (c2 : Nat) (xs2 : List Nat) (B1 : Option Addr) (d1 : Nat) (ys1 : List Nat) (B2 : Option Addr) (d2 : Nat) (ys2 : List Nat) (w : World)
    (hx1 : AllLt 256 xs1) (hx2 : AllLt 256 xs2) (hy1 : AllLt 256 ys1) (hy2 : AllLt 256 ys2) (l1 : xs1.length ≤ 1000000) (l2 : xs2.length ≤ 1000000) (l3 : ys1.length ≤ 1000000) (l4 : ys2.length ≤ 1000000)
    (h1 : Words .u8 w A1 xs1) (h2 : Words .u8 w A2 xs2) (h3 : Words .u8 w B1 ys1) (h4 : Words .u8 w B2 ys2) :
    Calls Tryd.prog 43 #[.agg (spV alg f p rd (.slice A1 xs1.length c1) (.slice A2 xs2.length c2)), .agg (spV alg' f' p' rd' (.slice B1 ys1.length d1) (.slice B2 ys2.length d2))] w fun e w' => e = .returned (.bool (same20 alg alg' f f' p p' rd rd' xs1 xs2 ys1 ys2)) ∧ Below w.heap.size w w' :=
  same20_core alg alg' f f' p p' rd rd' _ _ _ _ _ _ _ _ _ _ _ w spV_size spV_size spV_0 spV_26 spV_27 spV_28 spV_29 spV_0 spV_26 spV_27 spV_28 spV_29 (fun _ _ H => sp_lanes H) (fun _ _ H => sp_lanes H) rfl (fun W => equalIn25 f f' W) rfl rfl
    (fun W hb => refSame17_any A1 c1 xs1 A2 c2 xs2 B1 d1 ys1 B2 d2 ys2 hx1 hx2 hy1 hy2 l1 l2 l3 l4 W (h1.below hb (Nat.le_refl _)) (h2.below hb (Nat.le_refl _)) (h3.below hb (Nat.le_refl _)) (h4.below hb (Nat.le_refl _)))
end Go.Proofs.YteiemboopkbdpaaDoor.Sn
end

section
namespace Go.Proofs.YteiemboopkbdpaaDoor.Sn
open Go.RowKit Rw Mk Cd L64 Al Ln
set_option linter.unusedVariables false
set_option linter.unusedSimpArgs false
theorem sameB_self (xs : List Nat) : sameB xs xs = true := by unfold sameB; simp
set_option maxRecDepth 20000 in
theorem wakes20_any (w : World) (hT : ATab w) : Calls Tryd.prog 8 #[] w fun e w' => e = .returned (.bool true) ∧ Below w.heap.size w w' := by
  have C1 : Hid (∀ W, ATab W → Calls Tryd.prog 13 #[.int .i64 2, .agg #[.slice none 0 0, .slice none 0 0]] W fun e w' => e = .returned (.int .i64 118) ∧ Below W.heap.size W w') := fun W h =>
    size_any 2 none 0 [] none 0 [] (fun x hx => by cases hx) (fun x hx => by cases hx) W h (fun i hi => by cases hi) (fun i hi => by cases hi)
  have C2 : Hid (∀ W, ATab W → Calls Tryd.prog 13 #[.int .i64 8, .agg #[.slice none 0 0, .slice none 0 0]] W fun e w' => e = .returned (.int .i64 207) ∧ Below W.heap.size W w') := fun W h =>
    size_any 8 none 0 [] none 0 [] (fun x hx => by cases hx) (fun x hx => by cases hx) W h (fun i hi => by cases hi) (fun i hi => by cases hi)
  have HT := Lib.hid hT
  clear hT
  go_enter Tryd.func8, Tryd.ntmps8
  go_wp2_with (first
    | (go_at_call 13; ((with_reducible refine (C1.out _ HT.out).mono ?_); rintro e u1 ⟨rfl, hb⟩; have HB := Lib.hid hb; have HT1 := Lib.hid (HT.out.below hb (Nat.le_refl _)); clear hb))
    | (go_at_call 13; ((with_reducible refine (C2.out _ HT1.out).mono ?_); rintro e u2 ⟨rfl, hb⟩; replace HB := Lib.hid (HB.out.trans (hb.mono HB.out.size)); clear hb)))
  go_ret
  exact ⟨rfl, HB.out⟩
structure SB (w : World) (n k : Nat) (u : Array Value) (A : Option Addr) (xs : List Nat) (W : World) : Prop where
  below : Below w.heap.size w W
  hold : Hold W n k u
  words : Words .u8 W A xs
  tab : ATab W
theorem SB.call {w W W' : World} {n k : Nat} {u : Array Value} {A : Option Addr} {xs : List Nat} (h : SB w n k u A xs W) (hb : Below W.heap.size W W') : SB w n k u A xs W' :=
  ⟨h.below.trans (hb.mono h.below.size), h.hold.call hb, h.words.below hb (Nat.le_refl _), h.tab.below hb (Nat.le_refl _)⟩
section
attribute [local go_sem ↓] loadB
set_option maxRecDepth 100000 in
set_option maxHeartbeats 4000000 in
theorem snapBlocks_walk (w : World) (hT : ATab w) (alg : Int) (h : Nat → Nat) (hh : ∀ i, h i < 18446744073709551616) (hi lo : Nat) (hhi : hi < 18446744073709551616) (hlo : lo < 18446744073709551616) (A : Option Addr) (c : Nat) (xs : List Nat) (hx : AllLt 256 xs) (hm : xs.length ≤ maxLen) (hw : Words .u8 w A xs) (fl : Bool) :
    Calls Tryd.prog 3 #[.agg (blkV alg h hi lo (.slice A xs.length c) fl)] w fun e w' => e = .returned (.bool true) ∧ Below w.heap.size w w' := by
  have hb0 : Below w.heap.size w (w.alloc (.cells (blkV alg h hi lo (.slice A xs.length c) fl) 28)) := (Below.refl _ w).alloc (Nat.le_refl _) _
  have HS : Hid (SB w w.heap.size 13 (blkV alg h hi lo (.slice A xs.length c) fl) A xs (w.alloc (.cells (blkV alg h hi lo (.slice A xs.length c) fl) 28))) := ⟨hb0, Hold.new w _ _ 13 rfl, hw.below hb0 (Nat.le_refl _), hT.below hb0 (Nat.le_refl _)⟩
  have K11 : Hid ((blkV alg h hi lo (.slice A xs.length c) fl)[11]? = some (.slice A xs.length c)) := rfl
  have HK := Lib.hid (fun W hW => wakes20_any W hW)
  clear hT hb0 hw
  by_cases h300 : 300 < xs.length
  · have d1 : decide ((300 : Int) < (xs.length : Int)) = true := decide_eq_true (by omega)
    have d2 : decide ((xs.length : Int) > 300) = true := decide_eq_true (by omega)
    clear hm hh hhi hlo hx h300
    generalize blkV alg h hi lo (.slice A xs.length c) fl = u at *
    go_enter Tryd.func3, Tryd.ntmps3
    go_wp2_with (go_at_call 8; (with_reducible refine (HK.out _ HS.out.tab).mono ?_); rintro e u1 ⟨rfl, hb⟩; replace HS := Lib.hid (HS.out.call hb); have q1 : u1.cell? ⟨w.heap.size, 11, none⟩ = some (.slice A xs.length c) := HS.out.hold.cell K11.out; clear hb)
    go_ret
    exact ⟨rfl, HS.out.below⟩
  · have d1 : decide ((300 : Int) < (xs.length : Int)) = false := decide_eq_false (by omega)
    have d2 : decide ((xs.length : Int) > 300) = false := decide_eq_false (by omega)
    have CR := Lib.hid (fun W => refRight11_any alg h hi lo hhi hlo A xs.length c fl W)
    by_cases hr : right11 alg h (numC hi lo) xs.length = true
    · obtain ⟨a, rfl, h1a, ha6, hnl, -⟩ := right11_spec hr
      have CB := Lib.hid (fun W hT hW => snapBlock_yes a h hh hi lo hhi hlo A c xs fl W hr hT hW)
      have CF := Lib.hid (fun W hW => refBlock20_any a h hh hi lo hhi hlo A c xs fl W hW h1a ha6 (Nat.le_of_lt hnl))
      rw [hr] at CR
      have hlt := blkB_lt (sz := sz11 (a : Int)) (h := h) (hi := hi) (lo := lo) fl (show a < 256 by omega) hx
      have hlen := blkB_length (alg := a) (sz := sz11 (a : Int)) (h := h) (hi := hi) (lo := lo) fl (Nat.le_of_lt hnl)
      have hsz : sz11 (a : Int) ≤ 128 ∧ sz11 (a : Int) ≠ 0 := by rcases sz11_cases (a : Int) with ⟨e, _⟩ | ⟨e, _⟩ | ⟨e, e2⟩ <;> omega
      have hN : nmOk (kdN (idx (a : Int))) ([] : List Nat).length ([] : List Nat).length = true := by
        rcases sz_kd (a : Int) with ⟨_, e⟩ | ⟨e, _⟩
        · rw [e]; rfl
        · exact absurd e hsz.2
      have CZ : Hid (∀ W, ATab W → Calls Tryd.prog 13 #[.int .i64 (a : Nat), .agg #[.slice none 0 0, .slice none 0 0]] W fun e w' => e = .returned (.int .i64 ((blkB a (sz11 (a : Int)) h hi lo xs fl).length : Nat)) ∧ Below W.heap.size W w') := fun W hT => by
        have := size_any (a : Int) none 0 [] none 0 [] (fun x hx => by cases hx) (fun x hx => by cases hx) W hT (fun i hi => by cases hi) (fun i hi => by cases hi)
        rw [show sizeN (kdN (idx (a : Int))) (sz11 (a : Int)) [] [] = (blkB a (sz11 (a : Int)) h hi lo xs fl).length by rw [hlen]; unfold sizeN; rw [hN, if_pos rfl, if_pos hsz.2]] at this
        exact this
      have hl2 : (blkB a (sz11 (a : Int)) h hi lo xs fl).length ≤ 1000000 := by rw [hlen]; omega
      have K0 : Hid ((blkV a h hi lo (.slice A xs.length c) fl)[0]? = some (.int .i64 (a : Nat))) := rfl
      clear hm hh hhi hlo hx h300 hr h1a ha6 hnl hlen hsz hN
      generalize blkB a (sz11 (a : Int)) h hi lo xs fl = zz at *
      have CS : Hid (∀ W B1 d1 B2 d2, Words .u8 W B1 zz → Words .u8 W B2 zz → Calls Tryd.prog 11 #[.slice B1 zz.length d1, .slice B2 zz.length d2] W fun e w' => e = .returned (.bool true) ∧ Below W.heap.size W w') := fun W B1 d1 B2 d2 k1 k2 => by
        have := Cd.same_any zz zz hlt hlt hl2 hl2 W B1 d1 B2 d2 k1 k2
        rwa [sameB_self] at this
      clear hlt hl2
      generalize blkV a h hi lo (.slice A xs.length c) fl = u at *
      go_enter Tryd.func3, Tryd.ntmps3
      go_wp2_with (first
        | (go_at_call 8
           (with_reducible refine (HK.out _ HS.out.tab).mono ?_)
           rintro e u1 ⟨rfl, hb⟩
           replace HS := Lib.hid (HS.out.call hb)
           have q1 : u1.cell? ⟨w.heap.size, 11, none⟩ = some (.slice A xs.length c) := HS.out.hold.cell K11.out
           have q2 := HS.out.hold.load (T := 28) Tryd.underlying28 rfl (by kernel_rfl)
           clear hb)
        | (go_at_call 9
           (with_reducible refine (CB.out _ HS.out.tab HS.out.words).mono ?_)
           rintro e u2 ⟨B1, e1, rfl, -, k1, hb⟩
           replace HS := Lib.hid (HS.out.call hb)
           have HV := Lib.hid k1
           have q3 := HS.out.hold.load (T := 28) Tryd.underlying28 rfl (by kernel_rfl)
           clear hb k1 q1 q2)
        | (go_at_call 10
           (with_reducible refine (CR.out _).mono ?_)
           rintro e u3 ⟨rfl, hb⟩
           replace HS := Lib.hid (HS.out.call hb)
           replace HV := Lib.hid (HV.out.below hb (Nat.le_refl _))
           have q4 := HS.out.hold.load (T := 28) Tryd.underlying28 rfl (by kernel_rfl)
           clear hb q3)
        | (go_at_call 12
           (with_reducible refine (CF.out _ HS.out.words).mono ?_)
           rintro e u4 ⟨B2, e2, rfl, -, k2, hb⟩
           replace HS := Lib.hid (HS.out.call hb)
           replace HV := Lib.hid (HV.out.below hb (Nat.le_refl _))
           have HV2 := Lib.hid k2
           clear hb k2 q4)
        | (go_at_call 11
           (with_reducible refine (CS.out _ _ _ _ _ HV.out HV2.out).mono ?_)
           rintro e u5 ⟨rfl, hb⟩
           replace HS := Lib.hid (HS.out.call hb)
           have q5 : u5.cell? ⟨w.heap.size, 0, none⟩ = some (.int .i64 (a : Nat)) := HS.out.hold.cell K0.out
           clear hb HV HV2)
        | (go_at_call 13
           (with_reducible refine (CZ.out _ HS.out.tab).mono ?_)
           rintro e u6 ⟨rfl, hb⟩
           replace HS := Lib.hid (HS.out.call hb)
           clear hb))
      go_ret
      exact ⟨rfl, HS.out.below⟩
    · have hr : right11 alg h (numC hi lo) xs.length = false := by simpa using hr
      have CB := Lib.hid (fun W => snapBlock_no alg h hh hi lo hhi hlo A xs.length c fl W hr)
      rw [hr] at CR
      clear hm hh hhi hlo hx h300 hr
      generalize blkV alg h hi lo (.slice A xs.length c) fl = u at *
      go_enter Tryd.func3, Tryd.ntmps3
      go_wp2_with (first
        | (go_at_call 8
           (with_reducible refine (HK.out _ HS.out.tab).mono ?_)
           rintro e u1 ⟨rfl, hb⟩
           replace HS := Lib.hid (HS.out.call hb)
           have q1 : u1.cell? ⟨w.heap.size, 11, none⟩ = some (.slice A xs.length c) := HS.out.hold.cell K11.out
           have q2 := HS.out.hold.load (T := 28) Tryd.underlying28 rfl (by kernel_rfl)
           clear hb)
        | (go_at_call 9
           (with_reducible refine (CB.out _).mono ?_)
           rintro e u2 ⟨rfl, hb⟩
           replace HS := Lib.hid (HS.out.call hb)
           have q3 := HS.out.hold.load (T := 28) Tryd.underlying28 rfl (by kernel_rfl)
           clear hb q1 q2)
        | (go_at_call 10
           (with_reducible refine (CR.out _).mono ?_)
           rintro e u3 ⟨rfl, hb⟩
           replace HS := Lib.hid (HS.out.call hb)
           clear hb q3))
      go_ret
      exact ⟨rfl, HS.out.below⟩
end
end Go.Proofs.YteiemboopkbdpaaDoor.Sn
end

section
namespace Go.Proofs.YteiemboopkbdpaaDoor.Sn
open Go.RowKit Rw Mk Cd L64 Al Ln
set_option linter.unusedVariables false
set_option linter.unusedSimpArgs false
set_option maxRecDepth 20000 in
theorem long20_any (A1 : Option Addr) (n1 c1 : Nat) (A2 : Option Addr) (n2 c2 : Nat) (w : World) : Calls Tryd.prog 14 #[.agg #[.slice A1 n1 c1, .slice A2 n2 c2]] w fun e w' => e = .returned (.bool (decide (1100 < n1) || decide (1100 < n2))) ∧ Below w.heap.size w w' := by
  have HB := Lib.hid ((Below.refl w.heap.size w).alloc (Nat.le_refl _) (.cells #[.slice A1 n1 c1, .slice A2 n2 c2] 38))
  have e2 : decide ((1100 : Int) < (n2 : Int)) = decide (1100 < n2) := by simp; omega
  have e2' : decide ((n2 : Int) > 1100) = decide (1100 < n2) := e2
  by_cases h : 1100 < n1
  · have k1 : decide ((1100 : Int) < (n1 : Int)) = true := decide_eq_true (by omega)
    have k2 : decide ((n1 : Int) > 1100) = true := decide_eq_true (by omega)
    rw [decide_eq_true h, Bool.true_or]
    clear h
    go_enter Tryd.func14, Tryd.ntmps14
    go_wp2
    go_ret
    exact ⟨rfl, HB.out⟩
  · have k1 : decide ((1100 : Int) < (n1 : Int)) = false := decide_eq_false (by omega)
    have k2 : decide ((n1 : Int) > 1100) = false := decide_eq_false (by omega)
    rw [decide_eq_false h, Bool.false_or]
    clear h
    generalize decide (1100 < n2) = b at *
    go_enter Tryd.func14, Tryd.ntmps14
    go_wp2
    go_ret
    exact ⟨rfl, HB.out⟩
structure SC (w : World) (n k : Nat) (u : Array Value) (A1 : Option Addr) (xs1 : List Nat) (A2 : Option Addr) (xs2 : List Nat) (W : World) : Prop where
  below : Below w.heap.size w W
  hold : Hold W n k u
  w1 : Words .u8 W A1 xs1
  w2 : Words .u8 W A2 xs2
  tab : ATab W
theorem SC.call {w W W' : World} {n k : Nat} {u : Array Value} {A1 : Option Addr} {xs1 : List Nat} {A2 : Option Addr} {xs2 : List Nat} (h : SC w n k u A1 xs1 A2 xs2 W) (hb : Below W.heap.size W W') : SC w n k u A1 xs1 A2 xs2 W' :=
  ⟨h.below.trans (hb.mono h.below.size), h.hold.call hb, h.w1.below hb (Nat.le_refl _), h.w2.below hb (Nat.le_refl _), h.tab.below hb (Nat.le_refl _)⟩
set_option maxRecDepth 100000 in
set_option maxHeartbeats 4000000 in
theorem snapSizes_walk (w : World) (hT : ATab w) (alg : Int) (ha0 : -9223372036854775808 ≤ alg) (ha1 : alg ≤ 9223372036854775807) (A1 : Option Addr) (c1 : Nat) (xs1 : List Nat) (hx1 : AllLt 256 xs1) (hm1 : xs1.length ≤ maxLen) (h1 : Words .u8 w A1 xs1) (A2 : Option Addr) (c2 : Nat) (xs2 : List Nat) (hx2 : AllLt 256 xs2) (hm2 : xs2.length ≤ maxLen) (h2 : Words .u8 w A2 xs2) :
    Calls Tryd.prog 5 #[.int .i64 alg, .agg #[.slice A1 xs1.length c1, .slice A2 xs2.length c2]] w fun e w' => e = .returned (.bool true) ∧ Below w.heap.size w w' := by
  have hb0 : Below w.heap.size w (w.alloc (.cells #[.slice A1 xs1.length c1, .slice A2 xs2.length c2] 38)) := (Below.refl _ w).alloc (Nat.le_refl _) _
  have F : Hid (SC w w.heap.size 2 #[.slice A1 xs1.length c1, .slice A2 xs2.length c2] A1 xs1 A2 xs2 (w.alloc (.cells #[.slice A1 xs1.length c1, .slice A2 xs2.length c2] 38))) := ⟨hb0, Hold.new w _ _ 2 rfl, h1.below hb0 (Nat.le_refl _), h2.below hb0 (Nat.le_refl _), hT.below hb0 (Nat.le_refl _)⟩
  have HK := Lib.hid (fun W hW => wakes20_any W hW)
  have CL := Lib.hid (fun W => long20_any A1 xs1.length c1 A2 xs2.length c2 W)
  have CZ := Lib.hid (fun W hT k1 k2 => size_any alg A1 c1 xs1 A2 c2 xs2 hx1 hx2 W hT k1 k2)
  clear hT hb0 h1 h2 ha0 ha1 hm1 hm2
  cases hl : (decide (1100 < xs1.length) || decide (1100 < xs2.length)) with
  | true =>
    rw [hl] at CL
    clear hl hx1 hx2 CZ
    generalize xs1.length = n1 at *
    generalize xs2.length = n2 at *
    go_enter Tryd.func5, Tryd.ntmps5
    go_wp2_with (go_at_call 8; (with_reducible refine (HK.out _ F.out.tab).mono ?_); rintro e u1 ⟨rfl, hb⟩; replace F := Lib.hid (F.out.call hb); clear hb)
    have hnd : ([7, 8, 9, 10, 11, 12, 13, 14, 15, 16, 17, 4] : List Nat).Nodup := by decide
    refine wp_region_steps (by kernel_rfl) [[], [0], [1], [2], [2], [2, 3, 4], [2], [2], [2, 6, 7], [2, 5, 8], [2, 9], [10]] (by kernel_rfl) [7, 8, 9, 10, 11, 12, 13, 14, 15, 16, 17, 4] (by kernel_rfl)
      (JE _ [7, 8, 9, 10, 11, 12, 13, 14, 15, 16, 17, 4] [isV (.agg #[.slice A1 n1 c1, .slice A2 n2 c2]), isV (.bool true), isV (.bool true), isV (undef), isV (undef), isV (undef), isV (undef), isV (undef), isV (undef), isV (undef), isV (.bool true), isV (.bool true)])
      (JE.start _ _ _ _) (steps_cons ?_ (steps_cons ?_ (steps_cons ?_ (steps_cons ?_ (steps_cons ?_ (steps_cons ?_ (steps_cons ?_ (steps_cons ?_ (steps_cons ?_ (steps_cons ?_ (steps_cons ?_ (steps_cons ?_ (steps_nil))))))))))))) ?_
    · intro L s W hJ hcl hL0 hd K hK
      simp only [actOf, List.foldl_cons, List.foldl_nil, Act.put, List.setIfInBounds_toArray, List.set_cons_succ, List.set_cons_zero] at hK ⊢
      have q1 : W.cell? ⟨w.heap.size, 0, none⟩ = some (.slice A1 n1 c1) := (F.out.call hJ.below).hold.cell rfl
      have q2 : W.cell? ⟨w.heap.size, 1, none⟩ = some (.slice A2 n2 c2) := (F.out.call hJ.below).hold.cell rfl
      go_simp
      exact hK _ _ (hJ.still hnd 0 (by decide) rfl)
    · intro L s W hJ hcl hL0 hd K hK
      have e7 : s 7 = .agg #[.slice A1 n1 c1, .slice A2 n2 c2] := hJ.val 0 (by decide) (hd 0 (by decide))
      simp only [actOf, List.foldl_cons, List.foldl_nil, Act.put, List.setIfInBounds_toArray, List.set_cons_succ, List.set_cons_zero] at hK ⊢
      simp only [e7] at hK ⊢
      go_simp
      refine (CL.out _).mono ?_
      rintro e w9 ⟨rfl, hb⟩
      exact hK _ _ (hJ.step hnd 1 (by decide) hb rfl)
    · intro L s W hJ hcl hL0 hd K hK
      have e8 : s 8 = .bool true := hJ.val 1 (by decide) (hd 1 (by decide))
      simp only [actOf, List.foldl_cons, List.foldl_nil, Act.put, List.setIfInBounds_toArray, List.set_cons_succ, List.set_cons_zero] at hK ⊢
      simp only [e8] at hK ⊢
      go_simp
      exact hK _ _ (hJ.still hnd 2 (by decide) rfl)
    · intro L s W hJ hcl hL0 hd K hK
      have e9 : s 9 = .bool true := hJ.val 2 (by decide) (hd 2 (by decide))
      simp only [actOf, List.foldl_cons, List.foldl_nil, Act.put, List.setIfInBounds_toArray, List.set_cons_succ, List.set_cons_zero] at hK ⊢
      simp only [e9] at hK ⊢
      go_simp
      exact hK _ _ (hJ.still hnd 3 (by decide) rfl)
    · intro L s W hJ hcl hL0 hd K hK
      have e9 : s 9 = .bool true := hJ.val 2 (by decide) (hd 2 (by decide))
      simp only [actOf, List.foldl_cons, List.foldl_nil, Act.put, List.setIfInBounds_toArray, List.set_cons_succ, List.set_cons_zero] at hK ⊢
      simp only [e9] at hK ⊢
      have q1 : W.cell? ⟨w.heap.size, 0, none⟩ = some (.slice A1 n1 c1) := (F.out.call hJ.below).hold.cell rfl
      have q2 : W.cell? ⟨w.heap.size, 1, none⟩ = some (.slice A2 n2 c2) := (F.out.call hJ.below).hold.cell rfl
      go_simp
      exact hK _ _ (hJ.still hnd 4 (by decide) rfl)
    · intro L s W hJ hcl hL0 hd K hK
      have e9 : s 9 = .bool true := hJ.val 2 (by decide) (hd 2 (by decide))
      have e10 : s 10 = undef := hJ.val 3 (by decide) (hd 3 (by decide))
      have e11 : s 11 = undef := hJ.val 4 (by decide) (hd 4 (by decide))
      simp only [actOf, List.foldl_cons, List.foldl_nil, Act.put, List.setIfInBounds_toArray, List.set_cons_succ, List.set_cons_zero] at hK ⊢
      simp only [e9, e10, e11] at hK ⊢
      go_simp
      exact hK _ _ (hJ.still hnd 5 (by decide) rfl)
    · intro L s W hJ hcl hL0 hd K hK
      have e9 : s 9 = .bool true := hJ.val 2 (by decide) (hd 2 (by decide))
      simp only [actOf, List.foldl_cons, List.foldl_nil, Act.put, List.setIfInBounds_toArray, List.set_cons_succ, List.set_cons_zero] at hK ⊢
      simp only [e9] at hK ⊢
      go_simp
      exact hK _ _ (hJ.still hnd 6 (by decide) rfl)
    · intro L s W hJ hcl hL0 hd K hK
      have e9 : s 9 = .bool true := hJ.val 2 (by decide) (hd 2 (by decide))
      simp only [actOf, List.foldl_cons, List.foldl_nil, Act.put, List.setIfInBounds_toArray, List.set_cons_succ, List.set_cons_zero] at hK ⊢
      simp only [e9] at hK ⊢
      have q1 : W.cell? ⟨w.heap.size, 0, none⟩ = some (.slice A1 n1 c1) := (F.out.call hJ.below).hold.cell rfl
      have q2 : W.cell? ⟨w.heap.size, 1, none⟩ = some (.slice A2 n2 c2) := (F.out.call hJ.below).hold.cell rfl
      go_simp
      exact hK _ _ (hJ.still hnd 7 (by decide) rfl)
    · intro L s W hJ hcl hL0 hd K hK
      have e9 : s 9 = .bool true := hJ.val 2 (by decide) (hd 2 (by decide))
      have e13 : s 13 = undef := hJ.val 6 (by decide) (hd 6 (by decide))
      have e14 : s 14 = undef := hJ.val 7 (by decide) (hd 7 (by decide))
      simp only [actOf, List.foldl_cons, List.foldl_nil, Act.put, List.setIfInBounds_toArray, List.set_cons_succ, List.set_cons_zero] at hK ⊢
      simp only [e9, e13, e14] at hK ⊢
      go_simp
      exact hK _ _ (hJ.still hnd 8 (by decide) rfl)
    · intro L s W hJ hcl hL0 hd K hK
      have e9 : s 9 = .bool true := hJ.val 2 (by decide) (hd 2 (by decide))
      have e12 : s 12 = undef := hJ.val 5 (by decide) (hd 5 (by decide))
      have e15 : s 15 = undef := hJ.val 8 (by decide) (hd 8 (by decide))
      simp only [actOf, List.foldl_cons, List.foldl_nil, Act.put, List.setIfInBounds_toArray, List.set_cons_succ, List.set_cons_zero] at hK ⊢
      simp only [e9, e12, e15] at hK ⊢
      go_simp
      exact hK _ _ (hJ.still hnd 9 (by decide) rfl)
    · intro L s W hJ hcl hL0 hd K hK
      have e9 : s 9 = .bool true := hJ.val 2 (by decide) (hd 2 (by decide))
      have e16 : s 16 = undef := hJ.val 9 (by decide) (hd 9 (by decide))
      simp only [actOf, List.foldl_cons, List.foldl_nil, Act.put, List.setIfInBounds_toArray, List.set_cons_succ, List.set_cons_zero] at hK ⊢
      simp only [e9, e16] at hK ⊢
      go_simp
      exact hK _ _ (hJ.still hnd 10 (by decide) rfl)
    · intro L s W hJ hcl hL0 hd K hK
      have e17 : s 17 = .bool true := hJ.val 10 (by decide) (hd 10 (by decide))
      simp only [actOf, List.foldl_cons, List.foldl_nil, Act.put, List.setIfInBounds_toArray, List.set_cons_succ, List.set_cons_zero] at hK ⊢
      simp only [e17] at hK ⊢
      go_simp
      exact hK _ _ (hJ.still hnd 11 (by decide) rfl)
    · intro L s W hL hJ
      have e7 : s 7 = .agg #[.slice A1 n1 c1, .slice A2 n2 c2] := hJ.val 0 (by decide) (hL 0 (by decide))
      have e8 : s 8 = .bool true := hJ.val 1 (by decide) (hL 1 (by decide))
      have e9 : s 9 = .bool true := hJ.val 2 (by decide) (hL 2 (by decide))
      have e10 : s 10 = undef := hJ.val 3 (by decide) (hL 3 (by decide))
      have e11 : s 11 = undef := hJ.val 4 (by decide) (hL 4 (by decide))
      have e12 : s 12 = undef := hJ.val 5 (by decide) (hL 5 (by decide))
      have e13 : s 13 = undef := hJ.val 6 (by decide) (hL 6 (by decide))
      have e14 : s 14 = undef := hJ.val 7 (by decide) (hL 7 (by decide))
      have e15 : s 15 = undef := hJ.val 8 (by decide) (hL 8 (by decide))
      have e16 : s 16 = undef := hJ.val 9 (by decide) (hL 9 (by decide))
      have e17 : s 17 = .bool true := hJ.val 10 (by decide) (hL 10 (by decide))
      have e4 : s 4 = .bool true := hJ.val 11 (by decide) (hL 11 (by decide))
      simp only [actOf, List.foldl_cons, List.foldl_nil, Act.put, List.setIfInBounds_toArray, List.set_cons_succ, List.set_cons_zero]
      simp only [e7, e8, e9, e10, e11, e12, e13, e14, e15, e16, e17, e4]
      have HE := Lib.hid (F.out.call hJ.below).below
      clear hJ hL
      go_wp2_with fail
      go_ret
      exact ⟨rfl, HE.out⟩
  | false =>
    have hl1 : xs1.length ≤ 100000 ∧ xs2.length ≤ 100000 := by
      simp only [Bool.or_eq_false_iff, decide_eq_false_iff_not] at hl
      omega
    rw [hl] at CL
    have CF := Lib.hid (fun W k1 k2 => refSize_any alg A1 c1 xs1 A2 c2 xs2 W k1 k2 hl1.1 hl1.2)
    clear hl hx1 hx2 hl1
    generalize sizeN (kdN (idx alg)) (sz11 alg) xs1 xs2 = r at *
    generalize xs1.length = n1 at *
    generalize xs2.length = n2 at *
    go_enter Tryd.func5, Tryd.ntmps5
    go_wp2_with (go_at_call 8; (with_reducible refine (HK.out _ F.out.tab).mono ?_); rintro e u1 ⟨rfl, hb⟩; replace F := Lib.hid (F.out.call hb); clear hb)
    have hnd : ([7, 8, 9, 10, 11, 12, 13, 14, 15, 16, 17, 4] : List Nat).Nodup := by decide
    refine wp_region_steps (by kernel_rfl) [[], [0], [1], [2], [2], [2, 3, 4], [2], [2], [2, 6, 7], [2, 5, 8], [2, 9], [10]] (by kernel_rfl) [7, 8, 9, 10, 11, 12, 13, 14, 15, 16, 17, 4] (by kernel_rfl)
      (JE _ [7, 8, 9, 10, 11, 12, 13, 14, 15, 16, 17, 4] [isV (.agg #[.slice A1 n1 c1, .slice A2 n2 c2]), isV (.bool false), isV (.bool false), isV (.int .i64 alg), isV (.agg #[.slice A1 n1 c1, .slice A2 n2 c2]), isV (.int .i64 (r : Nat)), isV (.int .i64 alg), isV (.agg #[.slice A1 n1 c1, .slice A2 n2 c2]), isV (.int .i64 (r : Nat)), isV (.bool true), isV (.bool true), isV (.bool true)])
      (JE.start _ _ _ _) (steps_cons ?_ (steps_cons ?_ (steps_cons ?_ (steps_cons ?_ (steps_cons ?_ (steps_cons ?_ (steps_cons ?_ (steps_cons ?_ (steps_cons ?_ (steps_cons ?_ (steps_cons ?_ (steps_cons ?_ (steps_nil))))))))))))) ?_
    · intro L s W hJ hcl hL0 hd K hK
      simp only [actOf, List.foldl_cons, List.foldl_nil, Act.put, List.setIfInBounds_toArray, List.set_cons_succ, List.set_cons_zero] at hK ⊢
      have q1 : W.cell? ⟨w.heap.size, 0, none⟩ = some (.slice A1 n1 c1) := (F.out.call hJ.below).hold.cell rfl
      have q2 : W.cell? ⟨w.heap.size, 1, none⟩ = some (.slice A2 n2 c2) := (F.out.call hJ.below).hold.cell rfl
      go_simp
      exact hK _ _ (hJ.still hnd 0 (by decide) rfl)
    · intro L s W hJ hcl hL0 hd K hK
      have e7 : s 7 = .agg #[.slice A1 n1 c1, .slice A2 n2 c2] := hJ.val 0 (by decide) (hd 0 (by decide))
      simp only [actOf, List.foldl_cons, List.foldl_nil, Act.put, List.setIfInBounds_toArray, List.set_cons_succ, List.set_cons_zero] at hK ⊢
      simp only [e7] at hK ⊢
      go_simp
      refine (CL.out _).mono ?_
      rintro e w9 ⟨rfl, hb⟩
      exact hK _ _ (hJ.step hnd 1 (by decide) hb rfl)
    · intro L s W hJ hcl hL0 hd K hK
      have e8 : s 8 = .bool false := hJ.val 1 (by decide) (hd 1 (by decide))
      simp only [actOf, List.foldl_cons, List.foldl_nil, Act.put, List.setIfInBounds_toArray, List.set_cons_succ, List.set_cons_zero] at hK ⊢
      simp only [e8] at hK ⊢
      go_simp
      exact hK _ _ (hJ.still hnd 2 (by decide) rfl)
    · intro L s W hJ hcl hL0 hd K hK
      have e9 : s 9 = .bool false := hJ.val 2 (by decide) (hd 2 (by decide))
      simp only [actOf, List.foldl_cons, List.foldl_nil, Act.put, List.setIfInBounds_toArray, List.set_cons_succ, List.set_cons_zero] at hK ⊢
      simp only [e9] at hK ⊢
      go_simp
      exact hK _ _ (hJ.still hnd 3 (by decide) rfl)
    · intro L s W hJ hcl hL0 hd K hK
      have e9 : s 9 = .bool false := hJ.val 2 (by decide) (hd 2 (by decide))
      simp only [actOf, List.foldl_cons, List.foldl_nil, Act.put, List.setIfInBounds_toArray, List.set_cons_succ, List.set_cons_zero] at hK ⊢
      simp only [e9] at hK ⊢
      have q1 : W.cell? ⟨w.heap.size, 0, none⟩ = some (.slice A1 n1 c1) := (F.out.call hJ.below).hold.cell rfl
      have q2 : W.cell? ⟨w.heap.size, 1, none⟩ = some (.slice A2 n2 c2) := (F.out.call hJ.below).hold.cell rfl
      go_simp
      exact hK _ _ (hJ.still hnd 4 (by decide) rfl)
    · intro L s W hJ hcl hL0 hd K hK
      have e9 : s 9 = .bool false := hJ.val 2 (by decide) (hd 2 (by decide))
      have e10 : s 10 = .int .i64 alg := hJ.val 3 (by decide) (hd 3 (by decide))
      have e11 : s 11 = .agg #[.slice A1 n1 c1, .slice A2 n2 c2] := hJ.val 4 (by decide) (hd 4 (by decide))
      simp only [actOf, List.foldl_cons, List.foldl_nil, Act.put, List.setIfInBounds_toArray, List.set_cons_succ, List.set_cons_zero] at hK ⊢
      simp only [e9, e10, e11] at hK ⊢
      go_simp
      refine (CZ.out _ (F.out.call hJ.below).tab (F.out.call hJ.below).w1 (F.out.call hJ.below).w2).mono ?_
      rintro e w9 ⟨rfl, hb⟩
      exact hK _ _ (hJ.step hnd 5 (by decide) hb rfl)
    · intro L s W hJ hcl hL0 hd K hK
      have e9 : s 9 = .bool false := hJ.val 2 (by decide) (hd 2 (by decide))
      simp only [actOf, List.foldl_cons, List.foldl_nil, Act.put, List.setIfInBounds_toArray, List.set_cons_succ, List.set_cons_zero] at hK ⊢
      simp only [e9] at hK ⊢
      go_simp
      exact hK _ _ (hJ.still hnd 6 (by decide) rfl)
    · intro L s W hJ hcl hL0 hd K hK
      have e9 : s 9 = .bool false := hJ.val 2 (by decide) (hd 2 (by decide))
      simp only [actOf, List.foldl_cons, List.foldl_nil, Act.put, List.setIfInBounds_toArray, List.set_cons_succ, List.set_cons_zero] at hK ⊢
      simp only [e9] at hK ⊢
      have q1 : W.cell? ⟨w.heap.size, 0, none⟩ = some (.slice A1 n1 c1) := (F.out.call hJ.below).hold.cell rfl
      have q2 : W.cell? ⟨w.heap.size, 1, none⟩ = some (.slice A2 n2 c2) := (F.out.call hJ.below).hold.cell rfl
      go_simp
      exact hK _ _ (hJ.still hnd 7 (by decide) rfl)
    · intro L s W hJ hcl hL0 hd K hK
      have e9 : s 9 = .bool false := hJ.val 2 (by decide) (hd 2 (by decide))
      have e13 : s 13 = .int .i64 alg := hJ.val 6 (by decide) (hd 6 (by decide))
      have e14 : s 14 = .agg #[.slice A1 n1 c1, .slice A2 n2 c2] := hJ.val 7 (by decide) (hd 7 (by decide))
      simp only [actOf, List.foldl_cons, List.foldl_nil, Act.put, List.setIfInBounds_toArray, List.set_cons_succ, List.set_cons_zero] at hK ⊢
      simp only [e9, e13, e14] at hK ⊢
      go_simp
      refine (CF.out _ (F.out.call hJ.below).w1 (F.out.call hJ.below).w2).mono ?_
      rintro e w9 ⟨rfl, hb⟩
      exact hK _ _ (hJ.step hnd 8 (by decide) hb rfl)
    · intro L s W hJ hcl hL0 hd K hK
      have e9 : s 9 = .bool false := hJ.val 2 (by decide) (hd 2 (by decide))
      have e12 : s 12 = .int .i64 (r : Nat) := hJ.val 5 (by decide) (hd 5 (by decide))
      have e15 : s 15 = .int .i64 (r : Nat) := hJ.val 8 (by decide) (hd 8 (by decide))
      simp only [actOf, List.foldl_cons, List.foldl_nil, Act.put, List.setIfInBounds_toArray, List.set_cons_succ, List.set_cons_zero] at hK ⊢
      simp only [e9, e12, e15] at hK ⊢
      go_simp
      exact hK _ _ (hJ.still hnd 9 (by decide) rfl)
    · intro L s W hJ hcl hL0 hd K hK
      have e9 : s 9 = .bool false := hJ.val 2 (by decide) (hd 2 (by decide))
      have e16 : s 16 = .bool true := hJ.val 9 (by decide) (hd 9 (by decide))
      simp only [actOf, List.foldl_cons, List.foldl_nil, Act.put, List.setIfInBounds_toArray, List.set_cons_succ, List.set_cons_zero] at hK ⊢
      simp only [e9, e16] at hK ⊢
      go_simp
      exact hK _ _ (hJ.still hnd 10 (by decide) rfl)
    · intro L s W hJ hcl hL0 hd K hK
      have e17 : s 17 = .bool true := hJ.val 10 (by decide) (hd 10 (by decide))
      simp only [actOf, List.foldl_cons, List.foldl_nil, Act.put, List.setIfInBounds_toArray, List.set_cons_succ, List.set_cons_zero] at hK ⊢
      simp only [e17] at hK ⊢
      go_simp
      exact hK _ _ (hJ.still hnd 11 (by decide) rfl)
    · intro L s W hL hJ
      have e7 : s 7 = .agg #[.slice A1 n1 c1, .slice A2 n2 c2] := hJ.val 0 (by decide) (hL 0 (by decide))
      have e8 : s 8 = .bool false := hJ.val 1 (by decide) (hL 1 (by decide))
      have e9 : s 9 = .bool false := hJ.val 2 (by decide) (hL 2 (by decide))
      have e10 : s 10 = .int .i64 alg := hJ.val 3 (by decide) (hL 3 (by decide))
      have e11 : s 11 = .agg #[.slice A1 n1 c1, .slice A2 n2 c2] := hJ.val 4 (by decide) (hL 4 (by decide))
      have e12 : s 12 = .int .i64 (r : Nat) := hJ.val 5 (by decide) (hL 5 (by decide))
      have e13 : s 13 = .int .i64 alg := hJ.val 6 (by decide) (hL 6 (by decide))
      have e14 : s 14 = .agg #[.slice A1 n1 c1, .slice A2 n2 c2] := hJ.val 7 (by decide) (hL 7 (by decide))
      have e15 : s 15 = .int .i64 (r : Nat) := hJ.val 8 (by decide) (hL 8 (by decide))
      have e16 : s 16 = .bool true := hJ.val 9 (by decide) (hL 9 (by decide))
      have e17 : s 17 = .bool true := hJ.val 10 (by decide) (hL 10 (by decide))
      have e4 : s 4 = .bool true := hJ.val 11 (by decide) (hL 11 (by decide))
      simp only [actOf, List.foldl_cons, List.foldl_nil, Act.put, List.setIfInBounds_toArray, List.set_cons_succ, List.set_cons_zero]
      simp only [e7, e8, e9, e10, e11, e12, e13, e14, e15, e16, e17, e4]
      have HE := Lib.hid (F.out.call hJ.below).below
      clear hJ hL
      go_wp2_with fail
      go_ret
      exact ⟨rfl, HE.out⟩
end Go.Proofs.YteiemboopkbdpaaDoor.Sn
end

section
namespace Go.Proofs.YteiemboopkbdpaaDoor.Sn
open Go.RowKit Rw Mk Cd L64 Al Ln
set_option linter.unusedVariables false
set_option linter.unusedSimpArgs false
theorem bytesN_lt (f : Nat → Nat) : AllLt 256 (bytesN f) := by unfold bytesN; exact AllLt.map fun i _ => laneB_lt f i
theorem spgB_lt {a kd : Nat} {f : Nat → Nat} {p : Nat} {rd : Bool} {xs1 xs2 : List Nat} (ha : a < 256) (hp : p < 256) (h1 : AllLt 256 xs1) (h2 : AllLt 256 xs2) (l1 : xs1.length ≤ 100000) (l2 : xs2.length ≤ 100000) : AllLt 256 (spgB a kd f p rd xs1 xs2) := by
  refine (headN_lt rd ha).append ((show AllLt 256 [p] from fun x hx => by simp at hx; omega).append ((bytesN_lt f).append ?_))
  unfold nameB
  split
  · exact (textN_lt h1).append (textN_lt h2)
  · exact fun x hx => by cases hx
section
attribute [local go_sem ↓] loadSp
set_option maxRecDepth 100000 in
set_option maxHeartbeats 4000000 in
theorem snapSponges_walk (w : World) (hT : ATab w) (alg : Int) (f : Nat → Nat) (hf : ∀ i, f i < 18446744073709551616) (p : Int) (rd : Bool) (A1 : Option Addr) (c1 : Nat) (xs1 : List Nat) (hx1 : AllLt 256 xs1) (hm1 : xs1.length ≤ maxLen) (h1 : Words .u8 w A1 xs1) (A2 : Option Addr) (c2 : Nat) (xs2 : List Nat) (hx2 : AllLt 256 xs2) (hm2 : xs2.length ≤ maxLen) (h2 : Words .u8 w A2 xs2) :
    Calls Tryd.prog 4 #[.agg (spV alg f p rd (.slice A1 xs1.length c1) (.slice A2 xs2.length c2))] w fun e w' => e = .returned (.bool true) ∧ Below w.heap.size w w' := by
  have hb0 : Below w.heap.size w (w.alloc (.cells (spV alg f p rd (.slice A1 xs1.length c1) (.slice A2 xs2.length c2)) 42)) := (Below.refl _ w).alloc (Nat.le_refl _) _
  have F : Hid (SC w w.heap.size 30 (spV alg f p rd (.slice A1 xs1.length c1) (.slice A2 xs2.length c2)) A1 xs1 A2 xs2 (w.alloc (.cells (spV alg f p rd (.slice A1 xs1.length c1) (.slice A2 xs2.length c2)) 42))) := ⟨hb0, Hold.new w _ _ 30 spV_size, h1.below hb0 (Nat.le_refl _), h2.below hb0 (Nat.le_refl _), hT.below hb0 (Nat.le_refl _)⟩
  have HK := Lib.hid (fun W hW => wakes20_any W hW)
  have CL := Lib.hid (fun W => long20_any A1 xs1.length c1 A2 xs2.length c2 W)
  have K0 : Hid ((spV alg f p rd (.slice A1 xs1.length c1) (.slice A2 xs2.length c2))[0]? = some (.int .i64 alg)) := spV_0
  have K28 : Hid ((spV alg f p rd (.slice A1 xs1.length c1) (.slice A2 xs2.length c2))[28]? = some (.slice A1 xs1.length c1)) := spV_28
  have K29 : Hid ((spV alg f p rd (.slice A1 xs1.length c1) (.slice A2 xs2.length c2))[29]? = some (.slice A2 xs2.length c2)) := spV_29
  clear hT hb0 h1 h2 hm1 hm2
  cases hl : (decide (1100 < xs1.length) || decide (1100 < xs2.length)) with
  | true =>
    rw [hl] at CL
    clear hl hx1 hx2
    generalize spV alg f p rd (.slice A1 xs1.length c1) (.slice A2 xs2.length c2) = u at *
    go_enter Tryd.func4, Tryd.ntmps4
    go_wp2_with (first
      | (go_at_call 8; ((with_reducible refine (HK.out _ F.out.tab).mono ?_); rintro e u1 ⟨rfl, hb⟩; replace F := Lib.hid (F.out.call hb); have q1 : u1.cell? ⟨w.heap.size, 28, none⟩ = some (.slice A1 xs1.length c1) := F.out.hold.cell K28.out; have q2 : u1.cell? ⟨w.heap.size, 29, none⟩ = some (.slice A2 xs2.length c2) := F.out.hold.cell K29.out; clear hb))
      | (go_at_call 14; ((with_reducible refine (CL.out _).mono ?_); rintro e u2 ⟨rfl, hb⟩; replace F := Lib.hid (F.out.call hb); clear hb)))
    go_ret
    exact ⟨rfl, F.out.below⟩
  | false =>
    have hl1 : xs1.length ≤ 1100 ∧ xs2.length ≤ 1100 := by
      simp only [Bool.or_eq_false_iff, decide_eq_false_iff_not] at hl
      omega
    rw [hl] at CL
    have CR := Lib.hid (fun W hT k1 k2 => right20_any alg f p rd A1 c1 xs1 A2 c2 xs2 hx1 hx2 W hT k1 k2)
    have CRR := Lib.hid (fun W => refRight20_any alg f p rd A1 xs1.length c1 A2 xs2.length c2 W (by omega) (by omega))
    cases hr : right20 (kdN (idx alg)) (bkN (idx alg)) p rd xs1.length xs2.length with
    | false =>
      have CB := Lib.hid (fun W hT k1 k2 => snapSponge_no alg f p rd A1 c1 xs1 A2 c2 xs2 hx1 hx2 W hT k1 k2 hr)
      rw [hr] at CR CRR
      clear hl hx1 hx2 hl1 hr
      generalize spV alg f p rd (.slice A1 xs1.length c1) (.slice A2 xs2.length c2) = u at *
      go_enter Tryd.func4, Tryd.ntmps4
      go_wp2_with (first
        | (go_at_call 8; ((with_reducible refine (HK.out _ F.out.tab).mono ?_); rintro e u1 ⟨rfl, hb⟩; replace F := Lib.hid (F.out.call hb); have q1 : u1.cell? ⟨w.heap.size, 28, none⟩ = some (.slice A1 xs1.length c1) := F.out.hold.cell K28.out; have q2 : u1.cell? ⟨w.heap.size, 29, none⟩ = some (.slice A2 xs2.length c2) := F.out.hold.cell K29.out; clear hb))
        | (go_at_call 14; ((with_reducible refine (CL.out _).mono ?_); rintro e u2 ⟨rfl, hb⟩; replace F := Lib.hid (F.out.call hb); have q3 := F.out.hold.load (T := 42) Tryd.underlying42 rfl (by kernel_rfl); clear hb q1 q2))
        | (go_at_call 15; ((with_reducible refine (CB.out _ F.out.tab F.out.w1 F.out.w2).mono ?_); rintro e u3 ⟨rfl, hb⟩; replace F := Lib.hid (F.out.call hb); clear hb q3)))
      have hnd : ([15, 16, 17, 18, 19] : List Nat).Nodup := by decide
      refine wp_region_steps (by kernel_rfl) [[], [0], [], [2], [1, 3]] (by kernel_rfl) [15, 16, 17, 18, 19] (by kernel_rfl)
        (JE _ [15, 16, 17, 18, 19] [isV (.agg u), isV (.bool false), isV (.agg u), isV (.bool false), isV (.bool false)])
        (JE.start _ _ _ _) (steps_cons ?_ (steps_cons ?_ (steps_cons ?_ (steps_cons ?_ (steps_cons ?_ (steps_nil)))))) ?_
      · intro L s W hJ hcl hL0 hd K hK
        simp only [actOf, List.foldl_cons, List.foldl_nil, Act.put, List.setIfInBounds_toArray, List.set_cons_succ, List.set_cons_zero] at hK ⊢
        have q1 := (F.out.call hJ.below).hold.load (T := 42) Tryd.underlying42 rfl (by kernel_rfl)
        go_simp
        exact hK _ _ (hJ.still hnd 0 (by decide) rfl)
      · intro L s W hJ hcl hL0 hd K hK
        have e15 : s 15 = .agg u := hJ.val 0 (by decide) (hd 0 (by decide))
        simp only [actOf, List.foldl_cons, List.foldl_nil, Act.put, List.setIfInBounds_toArray, List.set_cons_succ, List.set_cons_zero] at hK ⊢
        simp only [e15] at hK ⊢
        go_simp
        refine (CR.out _ (F.out.call hJ.below).tab (F.out.call hJ.below).w1 (F.out.call hJ.below).w2).mono ?_
        rintro e w9 ⟨rfl, hb⟩
        exact hK _ _ (hJ.step hnd 1 (by decide) hb rfl)
      · intro L s W hJ hcl hL0 hd K hK
        simp only [actOf, List.foldl_cons, List.foldl_nil, Act.put, List.setIfInBounds_toArray, List.set_cons_succ, List.set_cons_zero] at hK ⊢
        have q1 := (F.out.call hJ.below).hold.load (T := 42) Tryd.underlying42 rfl (by kernel_rfl)
        go_simp
        exact hK _ _ (hJ.still hnd 2 (by decide) rfl)
      · intro L s W hJ hcl hL0 hd K hK
        have e17 : s 17 = .agg u := hJ.val 2 (by decide) (hd 2 (by decide))
        simp only [actOf, List.foldl_cons, List.foldl_nil, Act.put, List.setIfInBounds_toArray, List.set_cons_succ, List.set_cons_zero] at hK ⊢
        simp only [e17] at hK ⊢
        go_simp
        refine (CRR.out _).mono ?_
        rintro e w9 ⟨rfl, hb⟩
        exact hK _ _ (hJ.step hnd 3 (by decide) hb rfl)
      · intro L s W hJ hcl hL0 hd K hK
        have e16 : s 16 = .bool false := hJ.val 1 (by decide) (hd 1 (by decide))
        have e18 : s 18 = .bool false := hJ.val 3 (by decide) (hd 3 (by decide))
        simp only [actOf, List.foldl_cons, List.foldl_nil, Act.put, List.setIfInBounds_toArray, List.set_cons_succ, List.set_cons_zero] at hK ⊢
        simp only [e16, e18] at hK ⊢
        go_simp
        exact hK _ _ (hJ.still hnd 4 (by decide) rfl)
      · intro L s W hL hJ
        have e15 : s 15 = .agg u := hJ.val 0 (by decide) (hL 0 (by decide))
        have e16 : s 16 = .bool false := hJ.val 1 (by decide) (hL 1 (by decide))
        have e17 : s 17 = .agg u := hJ.val 2 (by decide) (hL 2 (by decide))
        have e18 : s 18 = .bool false := hJ.val 3 (by decide) (hL 3 (by decide))
        have e19 : s 19 = .bool false := hJ.val 4 (by decide) (hL 4 (by decide))
        simp only [actOf, List.foldl_cons, List.foldl_nil, Act.put, List.setIfInBounds_toArray, List.set_cons_succ, List.set_cons_zero]
        simp only [e15, e16, e17, e18, e19]
        replace F := Lib.hid (F.out.call hJ.below)
        have q2 := F.out.hold.load (T := 42) Tryd.underlying42 rfl (by kernel_rfl)
        clear hJ hL
        go_wp2_with (go_at_call 17; (with_reducible refine (CRR.out _).mono ?_); rintro e u4 ⟨rfl, hb⟩; replace F := Lib.hid (F.out.call hb); clear hb q2)
        go_ret
        exact ⟨rfl, F.out.below⟩
    | true =>
      obtain ⟨r1, r2, r3, r4⟩ := right20_spec hr
      obtain ⟨a, rfl, h7, h14⟩ := idx_sponge r1
      have hbk := bkN_le (idx (a : Int))
      obtain ⟨pp, rfl⟩ := Int.eq_ofNat_of_zero_le r2
      have CB := Lib.hid (fun W hT k1 k2 => snapSponge_yes a f hf pp rd A1 c1 xs1 A2 c2 xs2 hx1 hx2 W hT k1 k2 hr)
      have CF := Lib.hid (fun W k1 k2 => refSponge20_core a (by omega) (kdN (idx (a : Int))) f hf pp (by omega) rd A1 c1 xs1 A2 c2 xs2 (by omega) (by omega) W k1 k2 (fun V => refKind_any a V))
      have hlt := spgB_lt (a := a) (kd := kdN (idx (a : Int))) (f := f) (p := pp) (rd := rd) (show a < 256 by omega) (show pp < 256 by omega) hx1 hx2 (by omega) (by omega)
      have hz : sz11 (a : Int) = 0 := by rcases sz_kd (a : Int) with ⟨_, e⟩ | ⟨e, _⟩; exact absurd r1 (by rw [e]; decide); exact e
      have CZ : Hid (∀ W, ATab W → Words .u8 W A1 xs1 → Words .u8 W A2 xs2 → Calls Tryd.prog 13 #[.int .i64 (a : Nat), .agg #[.slice A1 xs1.length c1, .slice A2 xs2.length c2]] W fun e w' => e = .returned (.int .i64 ((spgB a (kdN (idx (a : Int))) f pp rd xs1 xs2).length : Nat)) ∧ Below W.heap.size W w') := fun W hT k1 k2 => by
        have := size_any (a : Int) A1 c1 xs1 A2 c2 xs2 hx1 hx2 W hT k1 k2
        rw [show sizeN (kdN (idx (a : Int))) (sz11 (a : Int)) xs1 xs2 = (spgB a (kdN (idx (a : Int))) f pp rd xs1 xs2).length by rw [spgB_len]; unfold sizeN; rw [r4, hz, if_pos rfl, if_neg (by simp), if_pos r1]] at this
        exact this
      have hl2 : (spgB a (kdN (idx (a : Int))) f pp rd xs1 xs2).length ≤ 1000000 := by
        have n1 := nb_le (8 * xs1.length)
        have n2 := nb_le (8 * xs2.length)
        rw [spgB_len, nameB_len, textN_length, textN_length]; split <;> omega
      rw [hr] at CR CRR
      clear hl hx1 hx2 hl1 hr r1 r2 r3 r4 h7 h14 hbk hz hf
      generalize spgB a (kdN (idx (a : Int))) f pp rd xs1 xs2 = zz at *
      have CS : Hid (∀ W B1 d1 B2 d2, Words .u8 W B1 zz → Words .u8 W B2 zz → Calls Tryd.prog 11 #[.slice B1 zz.length d1, .slice B2 zz.length d2] W fun e w' => e = .returned (.bool true) ∧ Below W.heap.size W w') := fun W B1 d1 B2 d2 k1 k2 => by
        have := Cd.same_any zz zz hlt hlt hl2 hl2 W B1 d1 B2 d2 k1 k2
        rwa [sameB_self] at this
      clear hlt hl2
      generalize spV a f pp rd (.slice A1 xs1.length c1) (.slice A2 xs2.length c2) = u at *
      go_enter Tryd.func4, Tryd.ntmps4
      go_wp2_with (first
        | (go_at_call 8; ((with_reducible refine (HK.out _ F.out.tab).mono ?_); rintro e u1 ⟨rfl, hb⟩; replace F := Lib.hid (F.out.call hb); have q1 : u1.cell? ⟨w.heap.size, 28, none⟩ = some (.slice A1 xs1.length c1) := F.out.hold.cell K28.out; have q2 : u1.cell? ⟨w.heap.size, 29, none⟩ = some (.slice A2 xs2.length c2) := F.out.hold.cell K29.out; clear hb))
        | (go_at_call 14; ((with_reducible refine (CL.out _).mono ?_); rintro e u2 ⟨rfl, hb⟩; replace F := Lib.hid (F.out.call hb); have q3 := F.out.hold.load (T := 42) Tryd.underlying42 rfl (by kernel_rfl); clear hb q1 q2))
        | (go_at_call 15; ((with_reducible refine (CB.out _ F.out.tab F.out.w1 F.out.w2).mono ?_); rintro e u3 ⟨B1, e1, rfl, -, k1, hb⟩; replace F := Lib.hid (F.out.call hb); have HV := Lib.hid k1; clear hb q3 k1)))
      have hnd : ([15, 16, 17, 18, 19] : List Nat).Nodup := by decide
      refine wp_region_steps (by kernel_rfl) [[], [0], [], [2], [1, 3]] (by kernel_rfl) [15, 16, 17, 18, 19] (by kernel_rfl)
        (JE _ [15, 16, 17, 18, 19] [isV (.agg u), isV (.bool true), isV (.agg u), isV (.bool true), isV (.bool false)])
        (JE.start _ _ _ _) (steps_cons ?_ (steps_cons ?_ (steps_cons ?_ (steps_cons ?_ (steps_cons ?_ (steps_nil)))))) ?_
      · intro L s W hJ hcl hL0 hd K hK
        simp only [actOf, List.foldl_cons, List.foldl_nil, Act.put, List.setIfInBounds_toArray, List.set_cons_succ, List.set_cons_zero] at hK ⊢
        have q1 := (F.out.call hJ.below).hold.load (T := 42) Tryd.underlying42 rfl (by kernel_rfl)
        go_simp
        exact hK _ _ (hJ.still hnd 0 (by decide) rfl)
      · intro L s W hJ hcl hL0 hd K hK
        have e15 : s 15 = .agg u := hJ.val 0 (by decide) (hd 0 (by decide))
        simp only [actOf, List.foldl_cons, List.foldl_nil, Act.put, List.setIfInBounds_toArray, List.set_cons_succ, List.set_cons_zero] at hK ⊢
        simp only [e15] at hK ⊢
        go_simp
        refine (CR.out _ (F.out.call hJ.below).tab (F.out.call hJ.below).w1 (F.out.call hJ.below).w2).mono ?_
        rintro e w9 ⟨rfl, hb⟩
        exact hK _ _ (hJ.step hnd 1 (by decide) hb rfl)
      · intro L s W hJ hcl hL0 hd K hK
        simp only [actOf, List.foldl_cons, List.foldl_nil, Act.put, List.setIfInBounds_toArray, List.set_cons_succ, List.set_cons_zero] at hK ⊢
        have q1 := (F.out.call hJ.below).hold.load (T := 42) Tryd.underlying42 rfl (by kernel_rfl)
        go_simp
        exact hK _ _ (hJ.still hnd 2 (by decide) rfl)
      · intro L s W hJ hcl hL0 hd K hK
        have e17 : s 17 = .agg u := hJ.val 2 (by decide) (hd 2 (by decide))
        simp only [actOf, List.foldl_cons, List.foldl_nil, Act.put, List.setIfInBounds_toArray, List.set_cons_succ, List.set_cons_zero] at hK ⊢
        simp only [e17] at hK ⊢
        go_simp
        refine (CRR.out _).mono ?_
        rintro e w9 ⟨rfl, hb⟩
        exact hK _ _ (hJ.step hnd 3 (by decide) hb rfl)
      · intro L s W hJ hcl hL0 hd K hK
        have e16 : s 16 = .bool true := hJ.val 1 (by decide) (hd 1 (by decide))
        have e18 : s 18 = .bool true := hJ.val 3 (by decide) (hd 3 (by decide))
        simp only [actOf, List.foldl_cons, List.foldl_nil, Act.put, List.setIfInBounds_toArray, List.set_cons_succ, List.set_cons_zero] at hK ⊢
        simp only [e16, e18] at hK ⊢
        go_simp
        exact hK _ _ (hJ.still hnd 4 (by decide) rfl)
      · intro L s W hL hJ
        have e15 : s 15 = .agg u := hJ.val 0 (by decide) (hL 0 (by decide))
        have e16 : s 16 = .bool true := hJ.val 1 (by decide) (hL 1 (by decide))
        have e17 : s 17 = .agg u := hJ.val 2 (by decide) (hL 2 (by decide))
        have e18 : s 18 = .bool true := hJ.val 3 (by decide) (hL 3 (by decide))
        have e19 : s 19 = .bool false := hJ.val 4 (by decide) (hL 4 (by decide))
        simp only [actOf, List.foldl_cons, List.foldl_nil, Act.put, List.setIfInBounds_toArray, List.set_cons_succ, List.set_cons_zero]
        simp only [e15, e16, e17, e18, e19]
        replace F := Lib.hid (F.out.call hJ.below)
        replace HV := Lib.hid (Words.below HV.out hJ.below (Nat.le_refl _))
        have q2 := F.out.hold.load (T := 42) Tryd.underlying42 rfl (by kernel_rfl)
        clear hJ hL
        go_wp2_with (first
          | (go_at_call 17; ((with_reducible refine (CRR.out _).mono ?_); rintro e u4 ⟨rfl, hb⟩; replace F := Lib.hid (F.out.call hb); replace HV := Lib.hid (Words.below HV.out hb (Nat.le_refl _)); have q4 := F.out.hold.load (T := 42) Tryd.underlying42 rfl (by kernel_rfl); clear hb q2))
          | (go_at_call 18; ((with_reducible refine (CF.out _ F.out.w1 F.out.w2).mono ?_); rintro e u5 ⟨B2, e2, rfl, -, k2, hb⟩; replace F := Lib.hid (F.out.call hb); replace HV := Lib.hid (Words.below HV.out hb (Nat.le_refl _)); have HV2 := Lib.hid k2; clear hb k2 q4))
          | (go_at_call 11; ((with_reducible refine (CS.out _ _ _ _ _ HV.out HV2.out).mono ?_); rintro e u6 ⟨rfl, hb⟩; replace F := Lib.hid (F.out.call hb); have q5 : u6.cell? ⟨w.heap.size, 0, none⟩ = some (.int .i64 (a : Nat)) := F.out.hold.cell K0.out; have q6 : u6.cell? ⟨w.heap.size, 28, none⟩ = some (.slice A1 xs1.length c1) := F.out.hold.cell K28.out; have q7 : u6.cell? ⟨w.heap.size, 29, none⟩ = some (.slice A2 xs2.length c2) := F.out.hold.cell K29.out; clear hb HV HV2))
          | (go_at_call 13; ((with_reducible refine (CZ.out _ F.out.tab F.out.w1 F.out.w2).mono ?_); rintro e u7 ⟨rfl, hb⟩; replace F := Lib.hid (F.out.call hb); clear hb)))
        go_ret
        exact ⟨rfl, F.out.below⟩
end
end Go.Proofs.YteiemboopkbdpaaDoor.Sn
end

section
namespace Go.Proofs.YteiemboopkbdpaaDoor.Sn
open Go.RowKit Rw Mk Cd L64 Al Ln
set_option linter.unusedVariables false
set_option linter.unusedSimpArgs false
theorem flag_at (a sz : Nat) (h : Nat → Nat) (hi lo : Nat) (xs : List Nat) (i : Nat) (hi5 : i ≠ 5) : (blkB a sz h hi lo xs false).getD i 0 = (blkB a sz h hi lo xs true).getD i 0 := by
  unfold blkB headN bitN
  match i, hi5 with
  | 0, _ => rfl
  | 1, _ => rfl
  | 2, _ => rfl
  | 3, _ => rfl
  | 4, _ => rfl
  | i + 6, _ => simp [List.getD_eq_getElem?_getD]
theorem SB.flag {w W : World} {n : Nat} {alg : Int} {h : Nat → Nat} {hi lo : Nat} {s : Value} {fl : Bool} {A : Option Addr} {xs : List Nat} (H : SB w n 13 (blkV alg h hi lo s fl) A xs W) (hn : w.heap.size ≤ n) (hA : xs ≠ [] → ∀ a, A = some a → a.block ≠ n) (ht : 1 < n) (fl' : Bool) :
    SB w n 13 (blkV alg h hi lo s fl') A xs (W.setRow n (blkV alg h hi lo s fl')) :=
  ⟨below_setRow H.below hn _, H.hold.set _ rfl, fun i hi => by
    obtain ⟨g, o, e, hc⟩ := H.words i hi
    exact ⟨g, o, e, (cell_setRow_other W n _ ⟨g, o + i, none⟩ (show g ≠ n from hA (fun e => by rw [e] at hi; exact absurd hi (by simp)) ⟨g, o, none⟩ e)).trans hc⟩,
    ⟨fun j v hj => (cell_setRow_other W n _ ⟨1, j, none⟩ (show 1 ≠ n by omega)).trans (H.tab.rows j v hj)⟩⟩
theorem words_other {k : IntKind} {W : World} {A : Option Addr} {xs : List Nat} (h : Words k W A xs) (n : Nat) (u : Array Value) (hA : ∀ a, A = some a → a.block ≠ n) : Words k (W.setRow n u) A xs := fun i hi => by
  obtain ⟨g, o, e, hc⟩ := h i hi
  exact ⟨g, o, e, (cell_setRow_other W n _ ⟨g, o + i, none⟩ (show g ≠ n from hA ⟨g, o, none⟩ e)).trans hc⟩
section
attribute [local go_sem ↓] loadB
set_option maxRecDepth 100000 in
set_option maxHeartbeats 4000000 in
theorem snapFlags_walk (w : World) (hT : ATab w) (alg : Int) (h : Nat → Nat) (hh : ∀ i, h i < 18446744073709551616) (hi lo : Nat) (hhi : hi < 18446744073709551616) (hlo : lo < 18446744073709551616) (A : Option Addr) (c : Nat) (xs : List Nat) (hx : AllLt 256 xs) (hm : xs.length ≤ maxLen) (hw : Words .u8 w A xs) (fl : Bool) :
    Calls Tryd.prog 7 #[.agg (blkV alg h hi lo (.slice A xs.length c) fl)] w fun e w' => e = .returned (.bool true) ∧ Below w.heap.size w w' := by
  have hb0 : Below w.heap.size w (w.alloc (.cells (blkV alg h hi lo (.slice A xs.length c) fl) 28)) := (Below.refl _ w).alloc (Nat.le_refl _) _
  have HS : Hid (SB w w.heap.size 13 (blkV alg h hi lo (.slice A xs.length c) fl) A xs (w.alloc (.cells (blkV alg h hi lo (.slice A xs.length c) fl) 28))) := ⟨hb0, Hold.new w _ _ 13 rfl, hw.below hb0 (Nat.le_refl _), hT.below hb0 (Nat.le_refl _)⟩
  have HAn : Hid (xs ≠ [] → ∀ a, A = some a → a.block ≠ w.heap.size) := fun hn a e => Nat.ne_of_lt (words_lt hw hn a e)
  have HTn := Lib.hid hT.lt
  have K11 : Hid ((blkV alg h hi lo (.slice A xs.length c) fl)[11]? = some (.slice A xs.length c)) := rfl
  have HK := Lib.hid (fun W hW => wakes20_any W hW)
  have CR := Lib.hid (fun fl W => refRight11_any alg h hi lo hhi hlo A xs.length c fl W)
  clear hT hb0 hw hm
  by_cases h300 : 300 < xs.length
  · have d1 : decide ((300 : Int) < (xs.length : Int)) = true := decide_eq_true (by omega)
    have d2 : decide ((xs.length : Int) > 300) = true := decide_eq_true (by omega)
    clear hh hhi hlo hx h300 CR HAn HTn
    generalize blkV alg h hi lo (.slice A xs.length c) fl = u at *
    go_enter Tryd.func7, Tryd.ntmps7
    go_wp2_with (go_at_call 8; (with_reducible refine (HK.out _ HS.out.tab).mono ?_); rintro e u1 ⟨rfl, hb⟩; replace HS := Lib.hid (HS.out.call hb); have q1 : u1.cell? ⟨w.heap.size, 11, none⟩ = some (.slice A xs.length c) := HS.out.hold.cell K11.out; clear hb)
    go_ret
    exact ⟨rfl, HS.out.below⟩
  · have d1 : decide ((300 : Int) < (xs.length : Int)) = false := decide_eq_false (by omega)
    have d2 : decide ((xs.length : Int) > 300) = false := decide_eq_false (by omega)
    cases hr : right11 alg h (numC hi lo) xs.length with
    | false =>
      have CR1 := Lib.hid (CR.out fl)
      rw [hr] at CR1
      clear hh hhi hlo hx h300 CR HAn HTn hr
      generalize blkV alg h hi lo (.slice A xs.length c) fl = u at *
      go_enter Tryd.func7, Tryd.ntmps7
      go_wp2_with (first
        | (go_at_call 8; ((with_reducible refine (HK.out _ HS.out.tab).mono ?_); rintro e u1 ⟨rfl, hb⟩; replace HS := Lib.hid (HS.out.call hb); have q1 : u1.cell? ⟨w.heap.size, 11, none⟩ = some (.slice A xs.length c) := HS.out.hold.cell K11.out; have q2 := HS.out.hold.load (T := 28) Tryd.underlying28 rfl (by kernel_rfl); clear hb))
        | (go_at_call 10; ((with_reducible refine (CR1.out _).mono ?_); rintro e u3 ⟨rfl, hb⟩; replace HS := Lib.hid (HS.out.call hb); clear hb q1 q2)))
      go_ret
      exact ⟨rfl, HS.out.below⟩
    | true =>
      obtain ⟨a, rfl, h1a, ha6, hnl, -⟩ := right11_spec hr
      have CR1 := Lib.hid (CR.out fl)
      rw [hr] at CR1
      have CB : ∀ (fl' : Bool) W, w.heap.size < W.heap.size → ATab W → Words .u8 W A xs → Calls Tryd.prog 9 #[.agg (blkV a h hi lo (.slice A xs.length c) fl')] W fun e w' => ∃ B d, e = .returned (.tuple #[.slice B (blkB a (sz11 (a : Int)) h hi lo xs fl').length d, .int .i64 0]) ∧ Words .u8 w' B (blkB a (sz11 (a : Int)) h hi lo xs fl') ∧ (∀ a, B = some a → a.block ≠ w.heap.size) ∧ Below W.heap.size W w' := fun fl' W hn hT hW =>
        (snapBlock_yes a h hh hi lo hhi hlo A c xs fl' W hr hT hW).mono fun e w' ⟨B, d, e1, e2, e3, e4⟩ => ⟨B, d, e1, e3, row_ne e2 hn, e4⟩
      have CB0 := Lib.hid (CB false)
      have CB1 := CB true
      have hlen0 := blkB_length (alg := a) (sz := sz11 (a : Int)) (h := h) (hi := hi) (lo := lo) false (Nat.le_of_lt hnl)
      have hlen1 := blkB_length (alg := a) (sz := sz11 (a : Int)) (h := h) (hi := hi) (lo := lo) true (Nat.le_of_lt hnl)
      have hsz : sz11 (a : Int) ≤ 128 := by rcases sz11_cases (a : Int) with ⟨e, _⟩ | ⟨e, _⟩ | ⟨e, e2⟩ <;> omega
      have HF := Lib.hid (fun i hi5 => flag_at a (sz11 (a : Int)) h hi lo xs i hi5)
      have H50 : Hid ((blkB a (sz11 (a : Int)) h hi lo xs false).getD 5 0 = 0) := rfl
      have H51 : Hid ((blkB a (sz11 (a : Int)) h hi lo xs true).getD 5 0 = 1) := rfl
      have hle : (blkB a (sz11 (a : Int)) h hi lo xs true).length = (blkB a (sz11 (a : Int)) h hi lo xs false).length := by rw [hlen0, hlen1]
      have hl2 : (blkB a (sz11 (a : Int)) h hi lo xs false).length ≤ 1000000 := by rw [hlen0]; omega
      have hl6 : 6 ≤ (blkB a (sz11 (a : Int)) h hi lo xs false).length := by rw [hlen0]; omega
      have S0 : Hid (∀ v, (blkV a h hi lo (.slice A xs.length c) fl).setIfInBounds 12 v = (blkV a h hi lo (.slice A xs.length c) fl).setIfInBounds 12 v) := fun v => rfl
      have G0 : Hid (∀ W fl0 fl1, SB w w.heap.size 13 (blkV a h hi lo (.slice A xs.length c) fl0) A xs W → SB w w.heap.size 13 (blkV a h hi lo (.slice A xs.length c) fl1) A xs (W.setRow w.heap.size (blkV a h hi lo (.slice A xs.length c) fl1)) ∧ W.setCell ⟨w.heap.size, 12, none⟩ (.bool fl1) = W.setRow w.heap.size (blkV a h hi lo (.slice A xs.length c) fl1) ∧ W.frozen? ⟨w.heap.size, 12, none⟩ = false ∧ W.cell? ⟨w.heap.size, 12, none⟩ = some (.bool fl0)) := fun W fl0 fl1 H =>
        ⟨H.flag (Nat.le_refl _) HAn.out HTn.out fl1, H.hold.setCell 12 _, H.hold.frozen 12, H.hold.cell rfl⟩
      clear hh hhi hlo hx h300 hr h1a ha6 hnl hlen0 hlen1 hsz CR S0 HAn HTn CB
      rw [hle] at CB1
      have CB1b := Lib.hid CB1
      clear CB1
      generalize blkB a (sz11 (a : Int)) h hi lo xs false = z0 at *
      generalize blkB a (sz11 (a : Int)) h hi lo xs true = z1 at *
      have HLE := Lib.hid hle
      clear hle
      generalize hV : blkV a h hi lo (.slice A xs.length c) = V at *
      clear hV
      go_enter Tryd.func7, Tryd.ntmps7
      go_wp2_with (first
        | (go_at_call 8; ((with_reducible refine (HK.out _ HS.out.tab).mono ?_); rintro e u1 ⟨rfl, hb⟩; replace HS := Lib.hid (HS.out.call hb); have q1 : u1.cell? ⟨w.heap.size, 11, none⟩ = some (.slice A xs.length c) := HS.out.hold.cell K11.out; have q2 := HS.out.hold.load (T := 28) Tryd.underlying28 rfl (by kernel_rfl); clear hb))
        | (go_at_call 10
           (with_reducible refine (CR1.out _).mono ?_)
           rintro e u2 ⟨rfl, hb⟩
           have hS := HS.out.call hb
           obtain ⟨k1, k2, k3, k4⟩ := G0.out _ _ false hS
           clear HS
           have HS := Lib.hid k1
           have q3 := HS.out.hold.load (T := 28) Tryd.underlying28 rfl (by kernel_rfl)
           generalize u2.setRow w.heap.size (V false) = U2 at *
           clear hb q1 q2 hS k1)
        | (go_at_call 9
           (with_reducible refine (CB0.out _ HS.out.hold.lt HS.out.tab HS.out.words).mono ?_)
           rintro e u3 ⟨B1, e1, rfl, m1, m2, hb⟩
           have hS := HS.out.call hb
           obtain ⟨k1, n2, n3, n4⟩ := G0.out _ _ true hS
           have HV := Lib.hid (words_other m1 w.heap.size (V true) m2)
           clear HS
           have HS := Lib.hid k1
           have q4 := HS.out.hold.load (T := 28) Tryd.underlying28 rfl (by kernel_rfl)
           generalize u3.setRow w.heap.size (V true) = U3 at *
           clear hb q3 hS k1 k2 k3 k4 m1 m2)
        | (go_at_call 9
           (with_reducible refine (CB1b.out _ HS.out.hold.lt HS.out.tab HS.out.words).mono ?_)
           rintro e u4 ⟨B2, e2, rfl, m1, -, hb⟩
           replace HS := Lib.hid (HS.out.call hb)
           replace HV := Lib.hid (Words.below HV.out hb (Nat.le_refl _))
           have HV2 := Lib.hid m1
           clear hb q4 n2 n3 n4 m1))
      obtain ⟨g1, o1, hB1, -, -⟩ := HV.out.block (i := 0) (by omega)
      obtain ⟨g2, o2, hB2, -, -⟩ := HV2.out.block (i := 0) (by rw [HLE.out]; omega)
      subst hB1; subst hB2
      have R0 : Hid (Below w.heap.size w u4 ∧ (∀ i, i < z0.length → u4.cell? ⟨g1, o1 + i, none⟩ = some (.int .u8 (z0.getD i 0 : Nat))) ∧ ∀ i, i < z0.length → u4.cell? ⟨g2, o2 + i, none⟩ = some (.int .u8 (z1.getD i 0 : Nat))) := by
        refine ⟨HS.out.below, fun i hi => ?_, fun i hi => ?_⟩
        · obtain ⟨x, y, e, hc⟩ := HV.out i hi
          cases e; exact hc
        · obtain ⟨x, y, e, hc⟩ := HV2.out i (by rw [HLE.out]; exact hi)
          cases e; exact hc
      clear HV HV2 HS
      go_loopg [46] z0.length (fun n i wr => ∃ k : Nat, k + n = z0.length ∧ i = .int .i64 (k : Nat) ∧ Hid (Below w.heap.size w wr ∧ (∀ i, i < z0.length → wr.cell? ⟨g1, o1 + i, none⟩ = some (.int .u8 (z0.getD i 0 : Nat))) ∧ ∀ i, i < z0.length → wr.cell? ⟨g2, o2 + i, none⟩ = some (.int .u8 (z1.getD i 0 : Nat))))
      case atStart => exact ⟨0, by omega, rfl, R0⟩
      case round =>
        clear R0
        obtain ⟨k, hk, rfl, HR⟩ := hrel
        by_cases hlt : k < z0.length
        · obtain ⟨n, rfl⟩ : ∃ n, gk = n + 1 := ⟨gk - 1, by omega⟩
          have i1 : (k : Int) < (z0.length : Int) := by omega
          have i0 : (0 : Int) ≤ (k : Int) := by omega
          have HR2 : Hid (Below w.heap.size w wr.drew ∧ (∀ i, i < z0.length → wr.drew.cell? ⟨g1, o1 + i, none⟩ = some (.int .u8 (z0.getD i 0 : Nat))) ∧ ∀ i, i < z0.length → wr.drew.cell? ⟨g2, o2 + i, none⟩ = some (.int .u8 (z1.getD i 0 : Nat))) := ⟨below_drew HR.out.1, HR.out.2.1, HR.out.2.2⟩
          clear HR
          go_wp2_with fail
          generalize hU : wr.drew = U at *
          have HU := Lib.hid hU
          clear hU
          have q1 := HR2.out.2.1 k hlt
          have q2 := HR2.out.2.2 k hlt
          obtain ⟨bb, hbb⟩ : ∃ bb, bb = ((k : Int) == 5) := ⟨_, rfl⟩
          have e5 : ((k : Int) == 5) = bb := hbb.symm
          have ex : (((z0.getD k 0 : Nat) : Int) == ((z1.getD k 0 : Nat) : Int)) = !bb := by
            by_cases h5 : k = 5
            · subst h5
              rw [H50.out, H51.out, ← e5]; rfl
            · rw [HF.out k h5, ← e5]
              have : ((k : Int) == 5) = false := by rw [beq_eq_false_iff_ne]; omega
              rw [this]; simp
          generalize z0.getD k 0 = p at *
          generalize z1.getD k 0 = q at *
          clear hbb
          refine still_all (by kernel_rfl) (by kernel_rfl) U HU.out ?_
          repeat still_step
          refine wpStill_nil ?_
          cases bb
          all_goals
            go_wp2
            go_roundg n
            case measure => omega
            case rel => exact ⟨k + 1, by omega, by go_num, HR2⟩
        · obtain rfl : k = z0.length := by omega
          have HB := Lib.hid HR.out.1
          go_wp2_with fail
          go_ret
          exact ⟨rfl, HB.out⟩
end
end Go.Proofs.YteiemboopkbdpaaDoor.Sn
end

section
namespace Go.Proofs.YteiemboopkbdpaaDoor
open Go.ChangeShapes Go.WideShapes Go.ChangeAt Go.RowKit
set_option linter.unusedVariables false
set_option linter.unusedSimpArgs false
def natOf (v : Option Value) : Nat := match v with | some (.int _ n) => n.toNat | _ => 0
theorem natOf_u64 {v : Option Value} {n : Nat} (h : v = some (.int .u64 (n : Int))) : natOf v = n := by rw [h]; simp [natOf]
theorem trod_u64s {H : Type} {P : Program} {enc : TypeId × Value → H} {w : World} {base : Nat} {spare : Nat → Bool} {held : Bool} {t u : TypeId} {d o n fuel : Nat} {cs : List Value} {x : DataW H × List MemPlace}
    (h : ((List.range n).all fun i => cellTy P d t (o + i) == some u) = true) (hu : P.underlying u = some (.int .u64)) (ht : DataW.trod enc P w base spare held fuel t cs = some x) :
    ∃ f : Nat → Nat, (∀ i, f i < 18446744073709551616) ∧ ∀ i, i < n → cs[o + i]? = some (.int .u64 (f i : Nat)) := by
  have ct : ∀ i, i < n → cellTy P d t (o + i) = some u := fun i hi => by simpa using List.all_eq_true.1 h i (List.mem_range.2 hi)
  have e1 : ∀ i, i < n → ∃ m : Nat, cs[o + i]? = some (.int .u64 (m : Int)) ∧ m < 18446744073709551616 := fun i hi => trod_u64_at (ct i hi) hu ht
  refine ⟨fun i => if i < n then natOf cs[o + i]? else 0, fun i => ?_, fun i hi => ?_⟩
  · dsimp only
    split
    · rename_i hi
      obtain ⟨m, hm, hl⟩ := e1 i hi
      rw [natOf_u64 hm]; exact hl
    · omega
  · obtain ⟨m, hm, hl⟩ := e1 i hi
    dsimp only
    rw [if_pos hi, natOf_u64 hm, hm]
set_option maxRecDepth 100000 in
theorem blk_cells {H : Type} {enc : TypeId × Value → H} {W : World} {base : Nat} {held : Bool} {cs : List Value} {fuel : Nat} {x : DataW H × List MemPlace} (hl : cs.length = 13) (hf : DataW.trod enc Tryd.prog W base (fun _ => true) held fuel 28 cs = some x) :
    ∃ (alg : Int) (hf : Nat → Nat) (hi lo : Nat) (A : Option Addr) (c : Nat) (xs : List Nat) (fl : Bool), cs = (blkV alg hf hi lo (.slice A xs.length c) fl).toList ∧ (∀ i, hf i < 18446744073709551616) ∧ hi < 18446744073709551616 ∧ lo < 18446744073709551616 ∧
      AllLt 256 xs ∧ xs.length ≤ maxLen ∧ Words .u8 W A xs ∧ (Lit.int .i64 alg).wf = true := by
  obtain ⟨alg, e0, w0⟩ := trod_int_at (d := 6) (o := 0) (by kernel_rfl) Tryd.underlying3 hf
  obtain ⟨h, hh, eh⟩ := trod_u64s (d := 6) (o := 1) (n := 8) (u := 22) (by kernel_rfl) Tryd.underlying22 hf
  obtain ⟨hi, e9, w9⟩ := trod_u64_at (d := 6) (o := 9) (u := 22) (by kernel_rfl) Tryd.underlying22 hf
  obtain ⟨lo, e10, w10⟩ := trod_u64_at (d := 6) (o := 10) (u := 22) (by kernel_rfl) Tryd.underlying22 hf
  obtain ⟨A, c, xs, e11, q1, q2, q3, q4⟩ := trod_bytes_at (d := 6) (o := 11) (u := 26) (e := 5) (by kernel_rfl) Tryd.underlying26 Tryd.underlying5 (by kernel_rfl) hf
  obtain ⟨fl, e12⟩ := trod_bool_at (d := 6) (o := 12) (u := 4) (by kernel_rfl) Tryd.underlying4 hf
  refine ⟨alg, h, hi, lo, A, c, xs, fl, ?_, hh, w9, w10, q1, Nat.le_trans q2 q3, q4, w0⟩
  apply List.ext_getElem?
  intro i
  match i with
  | 0 => exact e0
  | 1 => exact eh 0 (by omega)
  | 2 => exact eh 1 (by omega)
  | 3 => exact eh 2 (by omega)
  | 4 => exact eh 3 (by omega)
  | 5 => exact eh 4 (by omega)
  | 6 => exact eh 5 (by omega)
  | 7 => exact eh 6 (by omega)
  | 8 => exact eh 7 (by omega)
  | 9 => exact e9
  | 10 => exact e10
  | 11 => exact e11
  | 12 => exact e12
  | i + 13 => rw [List.getElem?_eq_none (by omega), List.getElem?_eq_none (by show 13 ≤ i + 13; omega)]
set_option maxRecDepth 100000 in
theorem spg_cells {H : Type} {enc : TypeId × Value → H} {W : World} {base : Nat} {held : Bool} {cs : List Value} {fuel : Nat} {x : DataW H × List MemPlace} (hl : cs.length = 30) (hf : DataW.trod enc Tryd.prog W base (fun _ => true) held fuel 42 cs = some x) :
    ∃ (alg : Int) (f : Nat → Nat) (p : Int) (rd : Bool) (A1 : Option Addr) (c1 : Nat) (xs1 : List Nat) (A2 : Option Addr) (c2 : Nat) (xs2 : List Nat), cs = (Sn.spV alg f p rd (.slice A1 xs1.length c1) (.slice A2 xs2.length c2)).toList ∧ (∀ i, f i < 18446744073709551616) ∧
      AllLt 256 xs1 ∧ xs1.length ≤ maxLen ∧ Words .u8 W A1 xs1 ∧ AllLt 256 xs2 ∧ xs2.length ≤ maxLen ∧ Words .u8 W A2 xs2 ∧ (Lit.int .i64 alg).wf = true ∧ (Lit.int .i64 p).wf = true := by
  obtain ⟨alg, e0, w0⟩ := trod_int_at (d := 6) (o := 0) (by kernel_rfl) Tryd.underlying3 hf
  obtain ⟨h, hh, eh⟩ := trod_u64s (d := 6) (o := 1) (n := 25) (u := 22) (by kernel_rfl) Tryd.underlying22 hf
  obtain ⟨p, e26, w26⟩ := trod_int_at (d := 6) (o := 26) (by kernel_rfl) Tryd.underlying3 hf
  obtain ⟨rd, e27⟩ := trod_bool_at (d := 6) (o := 27) (u := 4) (by kernel_rfl) Tryd.underlying4 hf
  obtain ⟨A1, c1, xs1, e28, q1, q2, q3, q4⟩ := trod_bytes_at (d := 6) (o := 28) (u := 26) (e := 5) (by kernel_rfl) Tryd.underlying26 Tryd.underlying5 (by kernel_rfl) hf
  obtain ⟨A2, c2, xs2, e29, r1, r2, r3, r4⟩ := trod_bytes_at (d := 6) (o := 29) (u := 26) (e := 5) (by kernel_rfl) Tryd.underlying26 Tryd.underlying5 (by kernel_rfl) hf
  refine ⟨alg, h, p, rd, A1, c1, xs1, A2, c2, xs2, ?_, hh, q1, Nat.le_trans q2 q3, q4, r1, Nat.le_trans r2 r3, r4, w0, w26⟩
  apply List.ext_getElem?
  intro i
  obtain ⟨u, hu⟩ : ∃ u, u = Sn.spV alg h p rd (.slice A1 xs1.length c1) (.slice A2 xs2.length c2) := ⟨_, rfl⟩
  rw [← hu, show u.toList[i]? = u[i]? from Array.getElem?_toList, hu]
  by_cases h0 : i = 0
  · subst h0; rw [e0, Sn.spV_0]
  by_cases h1 : i < 26
  · obtain ⟨j, rfl⟩ : ∃ j, i = 1 + j := ⟨i - 1, by omega⟩
    rw [eh j (by omega), Sn.spV_lane (by omega)]
  by_cases h2 : i = 26
  · subst h2; rw [e26, Sn.spV_26]
  by_cases h3 : i = 27
  · subst h3; rw [e27, Sn.spV_27]
  by_cases h4 : i = 28
  · subst h4; rw [e28, Sn.spV_28]
  by_cases h5 : i = 29
  · subst h5; rw [e29, Sn.spV_29]
  rw [List.getElem?_eq_none (by omega), Array.getElem?_eq_none (by rw [Sn.spV_size]; omega)]
end Go.Proofs.YteiemboopkbdpaaDoor
end

section
namespace Go.Proofs.YteiemboopkbdpaaDoor.Sn
open Go.RowKit Rw Mk Cd L64 Al Ln
set_option linter.unusedVariables false
set_option linter.unusedSimpArgs false
theorem big32_put {l : List Nat} (h : AllLt 4294967296 l) : big32 (putBig 4 l) = l :=
  wordsN_flat (by omega) (beB_length 4) l fun x hx => by rw [be_beB, Nat.mod_eq_of_lt (h x hx)]
theorem putBig8_inj {l m : List Nat} (hl : AllLt 18446744073709551616 l) (hm : AllLt 18446744073709551616 m) (h : putBig 8 l = putBig 8 m) : l = m := by
  rw [← big64_put hl, h, big64_put hm]
theorem putBig4_inj {l m : List Nat} (hl : AllLt 4294967296 l) (hm : AllLt 4294967296 m) (h : putBig 4 l = putBig 4 m) : l = m := by
  rw [← big32_put hl, h, big32_put hm]
theorem hL_inj {h g : Nat → Nat} (e : hL h = hL g) : ∀ i, i < 8 → h i = g i := fun i hi => by
  have := congrArg (fun l => l.getD i 0) e
  simp only [hL] at this
  rwa [getD_map _ _ _ _ hi, getD_map _ _ _ _ hi] at this
theorem hL_congr {h g : Nat → Nat} (e : ∀ i, i < 8 → h i = g i) : hL h = hL g := List.map_congr_left fun i hi => e i (List.mem_range.1 hi)
theorem headN_inj {a a' : Nat} {fl fl' : Bool} {r r' : List Nat} (h : headN a fl ++ r = headN a' fl' ++ r') : a = a' ∧ fl = fl' ∧ r = r' := by
  obtain ⟨h1, h2⟩ := List.append_inj h rfl
  simp only [headN, List.cons.injEq, and_true, true_and] at h1
  refine ⟨h1.1, ?_, h2⟩
  have h3 := h1.2
  cases fl <;> cases fl' <;> simp [bitN] at h3 <;> rfl
theorem numC_inj {hi lo hi' lo' : Nat} (h1 : lo < 18446744073709551616) (h2 : lo' < 18446744073709551616) (h : numC hi lo = numC hi' lo') : hi = hi' ∧ lo = lo' := by unfold numC at h; omega
theorem blk_apart (a a' : Nat) (h h' : Nat → Nat) (hh : ∀ i, h i < 18446744073709551616) (hh' : ∀ i, h' i < 18446744073709551616) (hi lo hi' lo' : Nat) (b1 : hi < 18446744073709551616) (b2 : lo < 18446744073709551616) (b3 : hi' < 18446744073709551616) (b4 : lo' < 18446744073709551616) (xs xs' : List Nat) (fl fl' : Bool)
    (hr : right11 a h (numC hi lo) xs.length = true) (hr' : right11 a' h' (numC hi' lo') xs'.length = true) :
    sameB (blkB a (sz11 a) h hi lo xs fl) (blkB a' (sz11 a') h' hi' lo' xs' fl') = same11 a a' h h' hi lo hi' lo' xs xs' fl fl' := by
  rw [Bool.eq_iff_iff]
  unfold sameB same11 eqC
  simp only [decide_eq_true_eq, Bool.and_eq_true, beq_iff_eq, eqN_iff]
  constructor
  · intro e
    unfold blkB at e
    obtain ⟨e1, e2, e3⟩ := headN_inj e
    subst e1
    obtain ⟨e4, e5⟩ := List.append_inj e3 (by rw [putBig_length, putBig_length]; rfl)
    have e6 := putBig8_inj (by intro x hx; simp at hx; omega) (by intro x hx; simp at hx; omega) e4
    simp only [List.cons.injEq, and_true] at e6
    obtain ⟨rfl, rfl⟩ := e6
    obtain ⟨e7, e8⟩ := List.append_inj e5 (by rw [putBig_length, putBig_length, hL, hL, List.length_map, List.length_map])
    have hlen : xs.length = xs'.length := by
      unfold right11 at hr hr'
      rcases sz11_cases (a : Int) with ⟨hs, _⟩ | ⟨hs, _⟩ | ⟨hs, _⟩
      · rw [hs] at hr hr'
        simp only [Nat.reduceEqDiff, if_false, Bool.and_eq_true, beq_iff_eq] at hr hr'
        have := hr.2.2.symm.trans hr'.2.2
        omega
      · rw [hs] at hr hr'
        simp only [Nat.reduceEqDiff, if_false, Bool.and_eq_true, beq_iff_eq] at hr hr'
        have := hr.2.2.symm.trans hr'.2.2
        omega
      · rw [hs] at hr; simp at hr
    have e9 : xs = xs' := (List.append_inj e8 hlen).1
    refine ⟨rfl, ?_, ⟨rfl, rfl⟩, e2, by unfold sameB; exact decide_eq_true e9⟩
    obtain ⟨_, _, _, _, _, hc⟩ := right11_spec hr
    obtain ⟨_, _, _, _, _, hc'⟩ := right11_spec hr'
    apply hL_inj
    rcases hc with ⟨hs, k⟩ | hs
    · have k' : ∀ i, i < 8 → h' i < 4294967296 := by rcases hc' with ⟨_, k'⟩ | hs'; exact k'; omega
      rw [hs] at e7
      exact putBig4_inj (AllLt.map fun i hi => k i (List.mem_range.1 hi)) (AllLt.map fun i hi => k' i (List.mem_range.1 hi)) e7
    · rw [hs] at e7
      exact putBig8_inj (AllLt.map fun i _ => hh i) (AllLt.map fun i _ => hh' i) e7
  · rintro ⟨e1, e2, ⟨e3, e4⟩, e5, e6⟩
    obtain rfl : a = a' := by omega
    obtain rfl : hi = hi' := by omega
    obtain rfl : lo = lo' := by omega
    unfold sameB at e6
    have e6 := of_decide_eq_true e6
    subst e5; subst e6
    unfold blkB
    rw [hL_congr e2]
theorem bytesN_inj {f g : Nat → Nat} (hf : ∀ i, f i < 18446744073709551616) (hg : ∀ i, g i < 18446744073709551616) (h : bytesN f = bytesN g) : ∀ i, i < 25 → f i = g i := fun j hj => by
  rw [← laneOf_laneB f j (hf j), ← laneOf_laneB g j (hg j)]
  exact laneOf_congr j hj fun i hi => by rw [← bytesN_getD f i hi, ← bytesN_getD g i hi, h]
theorem bytesN_congr {f g : Nat → Nat} (h : ∀ i, i < 25 → f i = g i) : bytesN f = bytesN g := List.map_congr_left fun i hi => by
  unfold laneB
  rw [h (i / 8) (by have := List.mem_range.1 hi; omega)]
theorem text2_inj {x1 x2 y1 y2 : List Nat} (h1 : x1.length ≤ 1000000) (h2 : x2.length ≤ 1000000) (h3 : y1.length ≤ 1000000) (h4 : y2.length ≤ 1000000) (h : textN x1 ++ textN x2 = textN y1 ++ textN y2) : x1 = y1 ∧ x2 = y2 := by
  have := texts_inj [x1, x2] [y1, y2] (by intro x hx; simp at hx; rcases hx with rfl | rfl <;> assumption) (by intro x hx; simp at hx; rcases hx with rfl | rfl <;> assumption) (by simpa using h)
  simpa using this
theorem spg_apart (a a' : Nat) (f f' : Nat → Nat) (hf : ∀ i, f i < 18446744073709551616) (hf' : ∀ i, f' i < 18446744073709551616) (p p' : Nat) (rd rd' : Bool) (xs1 xs2 ys1 ys2 : List Nat)
    (hn : nmOk (kdN (idx a)) xs1.length xs2.length = true) (hn' : nmOk (kdN (idx a')) ys1.length ys2.length = true) :
    sameB (spgB a (kdN (idx a)) f p rd xs1 xs2) (spgB a' (kdN (idx a')) f' p' rd' ys1 ys2) = same20 a a' f f' p p' rd rd' xs1 xs2 ys1 ys2 := by
  rw [Bool.eq_iff_iff]
  unfold sameB same20
  simp only [decide_eq_true_eq, Bool.and_eq_true, beq_iff_eq, eqN_iff]
  constructor
  · intro e
    unfold spgB at e
    obtain ⟨e1, e2, e3⟩ := headN_inj e
    subst e1
    obtain ⟨e4, e5⟩ := List.append_inj e3 rfl
    simp only [List.cons.injEq, and_true] at e4
    obtain ⟨e6, e7⟩ := List.append_inj e5 (by rw [bytesN_length, bytesN_length])
    obtain ⟨l1, l2⟩ := nmOk_le hn
    obtain ⟨l3, l4⟩ := nmOk_le hn'
    refine ⟨rfl, bytesN_inj hf hf' e6, by omega, e2, ?_⟩
    unfold nameB at e7
    by_cases h4 : kdN (idx (a : Int)) = 4
    · rw [if_pos h4, if_pos h4] at e7
      have := text2_inj (by omega) (by omega) (by omega) (by omega) e7
      exact ⟨by unfold sameB; exact decide_eq_true this.1, by unfold sameB; exact decide_eq_true this.2⟩
    · unfold nmOk at hn hn'
      rw [if_neg h4] at hn hn'
      simp only [Bool.and_eq_true, decide_eq_true_eq] at hn hn'
      have z1 := List.eq_nil_of_length_eq_zero hn.1
      have z2 := List.eq_nil_of_length_eq_zero hn.2
      have z3 := List.eq_nil_of_length_eq_zero hn'.1
      have z4 := List.eq_nil_of_length_eq_zero hn'.2
      subst z1; subst z2; subst z3; subst z4
      exact ⟨rfl, rfl⟩
  · rintro ⟨e1, e2, e3, e4, e5, e6⟩
    obtain rfl : a = a' := by omega
    obtain rfl : p = p' := by omega
    subst e4
    unfold sameB at e5 e6
    have e5 := of_decide_eq_true e5
    have e6 := of_decide_eq_true e6
    subst e5; subst e6
    unfold spgB
    rw [bytesN_congr e2]
theorem spg_blk (a a' : Nat) (h7 : 7 ≤ a) (h6 : a' ≤ 6) (kd sz : Nat) (f h : Nat → Nat) (p hi lo : Nat) (rd fl : Bool) (xs1 xs2 xs : List Nat) : sameB (spgB a kd f p rd xs1 xs2) (blkB a' sz h hi lo xs fl) = false := by
  unfold sameB
  apply decide_eq_false
  intro e
  unfold spgB blkB at e
  have := (headN_inj e).1
  omega
end Go.Proofs.YteiemboopkbdpaaDoor.Sn
end
