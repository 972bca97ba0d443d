/- Layer 20: the document's own snapshot of a sponge. | Layer 20: the document's Size. | Layer 4: '==' of counts, boxes of structs behind calls. No law is named here. | Layers 11 and 20: are two states the same? | Layer 20's statements: SnapBlocks. | States of sponges and of hashes of blocks by value (api.Sponge, api.Block), handed in, alone or within a struct: opened. -/
import Derived.Test.YteiemboopkbdpaaDoorBnd
import Derived.Test.YteiemboopkbdpaaDoorBnc
import Derived.Test.YteiemboopkbdpaaDoorBna
import Derived.Deep.RegionHeld3
import Derived.Test.YteiemboopkbdpaaDoorBnb
section
namespace Go.Proofs.YteiemboopkbdpaaDoor.Sn
open Go.RowKit Rw Mk Cd L64 Al Ln
set_option linter.unusedVariables false
set_option linter.unusedSimpArgs false
set_option maxRecDepth 100000 in
set_option maxHeartbeats 4000000 in
theorem refSponge20_core (a : Nat) (ha : a < 256) (kd : Nat) (f : Nat → Nat) (hf : ∀ i, f i < 18446744073709551616) (p : Nat) (hp : p < 256) (rd : Bool) (A1 : Option Addr) (c1 : Nat) (xs1 : List Nat) (A2 : Option Addr) (c2 : Nat) (xs2 : List Nat) (hl1 : xs1.length ≤ 100000) (hl2 : xs2.length ≤ 100000) (w : World) (h1 : Words .u8 w A1 xs1) (h2 : Words .u8 w A2 xs2)
    (C0 : ∀ W, Calls Tryd.prog 36 #[.int .i64 (a : Nat)] W fun e w' => e = .returned (.int .i64 (kd : Nat)) ∧ W = w') :
    Calls Tryd.prog 18 #[.agg (spV a f (p : Nat) rd (.slice A1 xs1.length c1) (.slice A2 xs2.length c2))] w (Gives .u8 5 (spgB a kd f p rd xs1 xs2) w) := by
  obtain ⟨i0, hi0, hz0, hz1, hz2⟩ := info_parts u8_info2
  have hb0 : Below w.heap.size w (w.alloc (.cells (spV a f (p : Nat) rd (.slice A1 xs1.length c1) (.slice A2 xs2.length c2)) 42)) := (Below.refl _ w).alloc (Nat.le_refl _) _
  have hH := Hold.new w (spV a f (p : Nat) rd (.slice A1 xs1.length c1) (.slice A2 xs2.length c2)) 42 30 spV_size
  have HC0 := Lib.hid C0
  have HH := Lib.hid (fun W => refHead_any a ha rd W)
  have HG := Lib.hid (fun W => refBytes14_any f hf W)
  have HT1 := Lib.hid (fun W hW => refText_any A1 c1 xs1 hl1 W hW)
  have HT2 := Lib.hid (fun W hW => refText_any A2 c2 xs2 hl2 W hW)
  have K0 : Hid ((spV a f (p : Nat) rd (.slice A1 xs1.length c1) (.slice A2 xs2.length c2))[0]? = some (.int .i64 (a : Nat))) := spV_0
  have K26 : Hid ((spV a f (p : Nat) rd (.slice A1 xs1.length c1) (.slice A2 xs2.length c2))[26]? = some (.int .i64 (p : Nat))) := spV_26
  have K27 : Hid ((spV a f (p : Nat) rd (.slice A1 xs1.length c1) (.slice A2 xs2.length c2))[27]? = some (.bool rd)) := spV_27
  have K28 : Hid ((spV a f (p : Nat) rd (.slice A1 xs1.length c1) (.slice A2 xs2.length c2))[28]? = some (.slice A1 xs1.length c1)) := spV_28
  have K29 : Hid ((spV a f (p : Nat) rd (.slice A1 xs1.length c1) (.slice A2 xs2.length c2))[29]? = some (.slice A2 xs2.length c2)) := spV_29
  have KL : Hid (∀ W, Hold W w.heap.size 30 (spV a f (p : Nat) rd (.slice A1 xs1.length c1) (.slice A2 xs2.length c2)) → (loadRow 40 (.pointer (some ⟨w.heap.size, 1, none⟩))).run Tryd.prog W = .ok (.agg (uTab 25 f)) W) := fun W h => sp_lanes h
  have HW1 := Lib.hid (h1.below hb0 (Nat.le_refl _))
  have HW2 := Lib.hid (h2.below hb0 (Nat.le_refl _))
  have HB0 := Lib.hid hb0
  have hwr : IntKind.u8.wrap (p : Int) = (p : Int) := by rw [IntKind.wrap_u8]; omega
  have hwr2 : (p : Int) % 256 = (p : Int) := by omega
  have l1 : (headN a rd).length ≤ 6 := Nat.le_refl 6
  have l2 : (bytesN f).length ≤ 200 := by simp [bytesN]
  have n1 := nb_le (8 * xs1.length)
  have n2 := nb_le (8 * xs2.length)
  have l3 : (textN xs1).length ≤ 100100 := by rw [textN_length]; omega
  have l4 : (textN xs2).length ≤ 100100 := by rw [textN_length]; omega
  have HT : Hid (∀ zs, zs = headN a rd ++ [p] ++ bytesN f ++ (if kd = 4 then textN xs1 ++ textN xs2 else []) → zs = spgB a kd f p rd xs1 xs2) := fun zs hz => by
    rw [hz, spgB, nameB]
    simp
  clear C0 hf ha hp n1 n2 hl1 hl2 h1 h2 hb0
  generalize spgB a kd f p rd xs1 xs2 = tot at *
  generalize headN a rd = zh at *
  generalize bytesN f = zb at *
  generalize textN xs1 = z1 at *
  generalize textN xs2 = z2 at *
  generalize spV a f (p : Nat) rd (.slice A1 xs1.length c1) (.slice A2 xs2.length c2) = u at *
  go_enter Tryd.func18, Tryd.ntmps18
  go_wp2_with fail
  generalize hWW : w.alloc (.cells u 42) = U at *
  have hN : w.heap.size < U.heap.size := by rw [← hWW, World.size_alloc]; omega
  clear hWW
  have hHd : Hold U.drew w.heap.size 30 u := hH.drew
  have H0 := Lib.hid hH
  have c0 : U.cell? ⟨w.heap.size, 0, none⟩ = some (.int .i64 (a : Nat)) := hH.cell K0.out
  have c26 : U.cell? ⟨w.heap.size, 26, none⟩ = some (.int .i64 (p : Nat)) := hH.cell K26.out
  have c27 : U.cell? ⟨w.heap.size, 27, none⟩ = some (.bool rd) := hH.cell K27.out
  have hHp : Hold (U.alloc (.cells #[.int .u8 (p : Nat)] 5)) w.heap.size 30 u := hH.past _
  have e0 : (U.alloc (.cells #[.int .u8 (p : Nat)] 5)).cell? ⟨w.heap.size, 0, none⟩ = some (.int .i64 (a : Nat)) := hHp.cell K0.out
  have e27 : (U.alloc (.cells #[.int .u8 (p : Nat)] 5)).cell? ⟨w.heap.size, 27, none⟩ = some (.bool rd) := hHp.cell K27.out
  have HVp : Hid (Words .u8 (U.alloc (.cells #[.int .u8 (p : Nat)] 5)).drew (some ⟨U.heap.size, 0, none⟩) [p]) := words_new U 5 .u8 [p] rfl
  have HUd : Hid (Below U.heap.size U U.drew) := (Below.refl _ _).drewN 1
  have HUp : Hid (Below U.heap.size U (U.alloc (.cells #[.int .u8 (p : Nat)] 5)).drew) := (((Below.refl _ _).alloc (Nat.le_refl _) _).drewN 1)
  clear hH hHd hHp
  go_region_law (first
    | (go_simp
       go_at_call 29
       (with_reducible refine (HH.out _).mono ?_)
       rintro e u1 ⟨Ah, ch, rfl, hr, -, hb⟩
       try clear c0 c26 c27
       try clear e0 e27
       first
         | (have HVx := Lib.hid (Words.below HVp.out hb (Nat.le_refl _))
            have HA := Lib.hid (AC.of_gives HUp.out hr hb)
            clear hr hb)
         | (have hA := AC.of_gives HUd.out hr hb
            have hHx := H0.out.below hA.below (by omega)
            have c26 : u1.cell? ⟨w.heap.size, 26, none⟩ = some (.int .i64 (p : Nat)) := hHx.cell K26.out
            have HVx := Lib.hid (words_new u1 5 .u8 [p] (c := #[.int .u8 (p : Nat)]) rfl)
            have HA := Lib.hid (hA.call (W' := u1.alloc (.cells #[.int .u8 (p : Nat)] 5)) ((Below.refl _ _).alloc (Nat.le_refl _) _))
            clear hr hb hA hHx))
    | (refine step_appB rfl _ _ 26 rfl U.heap.size 5 i0 Tryd.underlying26 hi0 hz0 hz1 hz2 (.slice Ah zh.length ch) zh (by rfl) HA.out.row (some ⟨_, 0, none⟩) 1 [p] (by rfl) HVx.out (by simp) (by simp only [List.length_cons, List.length_nil]; omega) HA.out.size ?_
       intro v5 w5 h5 hg5
       replace HA := Lib.hid (HA.out.app h5 hg5)
       have p1 := KL.out _ (H0.out.below HA.out.below (by omega))
       clear h5 hg5 HVx))
  all_goals
    clear HH HVp HUd HUp
    try clear c26
    by_cases h4 : kd = 4
    · have k4 : ((kd : Int) == 4) = true := by rw [beq_iff_eq]; omega
      rw [if_pos h4] at HT
      have HE := Lib.hid (HT.out (zh ++ [p] ++ zb ++ z1 ++ z2) (by simp))
      clear h4 HT
      go_wp2_with (first
        | (go_at_call 40
           (with_reducible refine (HG.out _).mono ?_)
           rintro e u2 ⟨A3, c3, rfl, -, hw2, hb⟩
           have HV := Lib.hid hw2
           replace HA := Lib.hid (HA.out.call hb)
           clear hw2 hb)
        | (at_builtin
           refine append_anyB rfl _ _ 26 rfl U.heap.size 5 i0 Tryd.underlying26 hi0 hz0 hz1 hz2 _ (zh ++ [p]) rfl HA.out.row A3 c3 zb rfl HV.out (by simp only [List.length_append, List.length_cons, List.length_nil]; omega) HA.out.size ?_
           intro v2 w2 k2 kg2
           replace HA := Lib.hid (HA.out.app k2 kg2)
           have d0 : w2.cell? ⟨w.heap.size, 0, none⟩ = some (.int .i64 (a : Nat)) := (H0.out.below HA.out.below (by omega)).cell K0.out
           have d28 : w2.cell? ⟨w.heap.size, 28, none⟩ = some (.slice A1 xs1.length c1) := (H0.out.below HA.out.below (by omega)).cell K28.out
           clear k2 kg2 HV)
        | (go_at_call 36
           (with_reducible refine (HC0.out _).mono ?_)
           rintro e u3 ⟨rfl, rfl⟩)
        | (go_at_call 41
           (with_reducible refine (HT1.out _ (HW1.out.below HA.out.below (Nat.le_refl _))).mono ?_)
           rintro e u4 ⟨A4, c4, rfl, -, hw2, hb⟩
           have HV := Lib.hid hw2
           replace HA := Lib.hid (HA.out.call hb)
           clear hw2 hb)
        | (at_builtin
           refine append_anyB rfl _ _ 26 rfl U.heap.size 5 i0 Tryd.underlying26 hi0 hz0 hz1 hz2 _ (zh ++ [p] ++ zb) rfl HA.out.row A4 c4 z1 rfl HV.out (by simp only [List.length_append, List.length_cons, List.length_nil]; omega) HA.out.size ?_
           intro v2 w2 k2 kg2
           replace HA := Lib.hid (HA.out.app k2 kg2)
           have d29 : w2.cell? ⟨w.heap.size, 29, none⟩ = some (.slice A2 xs2.length c2) := (H0.out.below HA.out.below (by omega)).cell K29.out
           clear k2 kg2 HV)
        | (go_at_call 41
           (with_reducible refine (HT2.out _ (HW2.out.below HA.out.below (Nat.le_refl _))).mono ?_)
           rintro e u4 ⟨A5, c5, rfl, -, hw2, hb⟩
           have HV := Lib.hid hw2
           replace HA := Lib.hid (HA.out.call hb)
           clear hw2 hb)
        | (at_builtin
           refine append_anyB rfl _ _ 26 rfl U.heap.size 5 i0 Tryd.underlying26 hi0 hz0 hz1 hz2 _ (zh ++ [p] ++ zb ++ z1) rfl HA.out.row A5 c5 z2 rfl HV.out (by simp only [List.length_append, List.length_cons, List.length_nil]; omega) HA.out.size ?_
           intro v2 w2 k2 kg2
           replace HA := Lib.hid (HA.out.app k2 kg2)
           clear k2 kg2 HV))
      go_ret
      have hr := HA.out.row
      rw [HE.out] at hr
      exact Gives.mk (hr.mono (by omega)) (HB0.out.trans (HA.out.below.mono (by omega)))
    · have k4 : ((kd : Int) == 4) = false := by rw [beq_eq_false_iff_ne]; omega
      rw [if_neg h4] at HT
      have HE := Lib.hid (HT.out (zh ++ [p] ++ zb) (by simp))
      clear h4 HT
      go_wp2_with (first
        | (go_at_call 40
           (with_reducible refine (HG.out _).mono ?_)
           rintro e u2 ⟨A3, c3, rfl, -, hw2, hb⟩
           have HV := Lib.hid hw2
           replace HA := Lib.hid (HA.out.call hb)
           clear hw2 hb)
        | (at_builtin
           refine append_anyB rfl _ _ 26 rfl U.heap.size 5 i0 Tryd.underlying26 hi0 hz0 hz1 hz2 _ (zh ++ [p]) rfl HA.out.row A3 c3 zb rfl HV.out (by simp only [List.length_append, List.length_cons, List.length_nil]; omega) HA.out.size ?_
           intro v2 w2 k2 kg2
           replace HA := Lib.hid (HA.out.app k2 kg2)
           have d0 : w2.cell? ⟨w.heap.size, 0, none⟩ = some (.int .i64 (a : Nat)) := (H0.out.below HA.out.below (by omega)).cell K0.out
           have d28 : w2.cell? ⟨w.heap.size, 28, none⟩ = some (.slice A1 xs1.length c1) := (H0.out.below HA.out.below (by omega)).cell K28.out
           clear k2 kg2 HV)
        | (go_at_call 36
           (with_reducible refine (HC0.out _).mono ?_)
           rintro e u3 ⟨rfl, rfl⟩)
        | (go_at_call 41
           (with_reducible refine (HT1.out _ (HW1.out.below HA.out.below (Nat.le_refl _))).mono ?_)
           rintro e u4 ⟨A4, c4, rfl, -, hw2, hb⟩
           have HV := Lib.hid hw2
           replace HA := Lib.hid (HA.out.call hb)
           clear hw2 hb)
        | (at_builtin
           refine append_anyB rfl _ _ 26 rfl U.heap.size 5 i0 Tryd.underlying26 hi0 hz0 hz1 hz2 _ (zh ++ [p] ++ zb) rfl HA.out.row A4 c4 z1 rfl HV.out (by simp only [List.length_append, List.length_cons, List.length_nil]; omega) HA.out.size ?_
           intro v2 w2 k2 kg2
           replace HA := Lib.hid (HA.out.app k2 kg2)
           have d29 : w2.cell? ⟨w.heap.size, 29, none⟩ = some (.slice A2 xs2.length c2) := (H0.out.below HA.out.below (by omega)).cell K29.out
           clear k2 kg2 HV)
        | (go_at_call 41
           (with_reducible refine (HT2.out _ (HW2.out.below HA.out.below (Nat.le_refl _))).mono ?_)
           rintro e u4 ⟨A5, c5, rfl, -, hw2, hb⟩
           have HV := Lib.hid hw2
           replace HA := Lib.hid (HA.out.call hb)
           clear hw2 hb)
        | (at_builtin
           refine append_anyB rfl _ _ 26 rfl U.heap.size 5 i0 Tryd.underlying26 hi0 hz0 hz1 hz2 _ (zh ++ [p] ++ zb ++ z1) rfl HA.out.row A5 c5 z2 rfl HV.out (by simp only [List.length_append, List.length_cons, List.length_nil]; omega) HA.out.size ?_
           intro v2 w2 k2 kg2
           replace HA := Lib.hid (HA.out.app k2 kg2)
           clear k2 kg2 HV))
      go_ret
      have hr := HA.out.row
      rw [HE.out] at hr
      exact Gives.mk (hr.mono (by omega)) (HB0.out.trans (HA.out.below.mono (by omega)))
end Go.Proofs.YteiemboopkbdpaaDoor.Sn
end

section
namespace Go.Proofs.YteiemboopkbdpaaDoor.Sn
open Go.RowKit Rw Mk Cd L64 Al Ln
set_option linter.unusedVariables false
set_option linter.unusedSimpArgs false
section
attribute [local go_sem ↓] loadB storeB zeroB bsS
attribute [local go_sem] run_bsS
set_option maxRecDepth 100000 in
set_option maxHeartbeats 4000000 in
theorem refSize_core (alg : Int) (kd : Nat) (A1 : Option Addr) (n1 c1 : Nat) (A2 : Option Addr) (n2 c2 : Nat) (b0 bR b4 bE b1 : Bool) (L1 L2 r : Nat) (w : World)
    (e0 : ((kd : Int) == 0) = b0) (e4 : decide ((kd : Int) < 4) = b4) (e1 : ((kd : Int) == 1) = b1)
    (C1 : ∀ W, Calls Tryd.prog 36 #[.int .i64 alg] W fun e w' => e = .returned (.int .i64 (kd : Nat)) ∧ W = w')
    (C2 : ∀ W, Calls Tryd.prog 38 #[.agg #[.slice A1 n1 c1, .slice A2 n2 c2]] W fun e w' => e = .returned (.bool bR) ∧ Below W.heap.size W w')
    (C3 : bR = true → ∀ W, Calls Tryd.prog 39 #[.agg #[.slice A1 n1 c1, .slice A2 n2 c2]] W fun e w' => e = .returned (.bool bE) ∧ Below W.heap.size W w')
    (C4 : b1 = true → ∀ W, Calls Tryd.prog 42 #[.int .i64 alg] W fun e w' => ∃ h : Nat → Nat, (∀ i, h i < 18446744073709551616) ∧ e = .returned (.agg (blkV alg h 0 0 (.slice none 0 0) false)) ∧ Below W.heap.size W w')
    (C5 : b1 = true → ∀ h : Nat → Nat, (∀ i, h i < 18446744073709551616) → ∀ W, Calls Tryd.prog 12 #[.agg (blkV alg h 0 0 (.slice none 0 0) false)] W fun e w' => ∃ A c, e = .returned (.slice A L1 c) ∧ Below W.heap.size W w')
    (C6 : b0 = false → bR = true → (b4 = true → bE = true) → b1 = false → ∀ W, Below w.heap.size w W → Calls Tryd.prog 18 #[.agg (spV alg (fun _ => 0) 0 false (.slice A1 n1 c1) (.slice A2 n2 c2))] W fun e w' => ∃ A c, e = .returned (.slice A L2 c) ∧ Below W.heap.size W w')
    (hr : r = if b0 || !bR || (b4 && !bE) then 0 else if b1 then L1 else L2) :
    Calls Tryd.prog 19 #[.int .i64 alg, .agg #[.slice A1 n1 c1, .slice A2 n2 c2]] w fun e w' => e = .returned (.int .i64 (r : Nat)) ∧ Below w.heap.size w w' := by
  have hb0 : Below w.heap.size w (w.alloc (.cells #[.slice A1 n1 c1, .slice A2 n2 c2] 38)) := (Below.refl _ w).alloc (Nat.le_refl _) _
  have H0 := Lib.hid (Hold.new w #[.slice A1 n1 c1, .slice A2 n2 c2] 38 2 rfl)
  have HB := Lib.hid hb0
  have D1 := Lib.hid C1
  have D2 := Lib.hid C2
  clear hb0 C1 C2
  cases b0 with
  | false =>
    cases bR with
    | false =>
      obtain rfl : r = 0 := hr
      clear C3 C4 C5 C6
      go_enter Tryd.func19, Tryd.ntmps19
      go_wp2_with (first
        | (go_at_call 36
           (with_reducible refine (D1.out _).mono ?_)
           rintro e u1 ⟨rfl, rfl⟩)
        | (go_at_call 38
           (with_reducible refine (D2.out _).mono ?_)
           rintro e u1 ⟨rfl, hb⟩
           replace HB := Lib.hid (HB.out.trans (hb.mono HB.out.size))
           replace H0 := Lib.hid (H0.out.call hb)
           have p3 : u1.cell? ⟨w.heap.size, 0, none⟩ = some (.slice A1 n1 c1) := H0.out.cell rfl
           have p4 : u1.cell? ⟨w.heap.size, 1, none⟩ = some (.slice A2 n2 c2) := H0.out.cell rfl
           clear hb)
        | (go_at_call 39
           (with_reducible refine (D3.out _).mono ?_)
           rintro e u2 ⟨rfl, hb⟩
           replace HB := Lib.hid (HB.out.trans (hb.mono HB.out.size))
           replace H0 := Lib.hid (H0.out.call hb)
           have p5 : u2.cell? ⟨w.heap.size, 0, none⟩ = some (.slice A1 n1 c1) := H0.out.cell rfl
           have p6 : u2.cell? ⟨w.heap.size, 1, none⟩ = some (.slice A2 n2 c2) := H0.out.cell rfl
           clear hb p3 p4)
        | (go_at_call 42
           (with_reducible refine (D4.out _).mono ?_)
           rintro e u3 ⟨h, hh, rfl, hb⟩
           have HH := Lib.hid hh
           have s1 := run_storeB (Hold.new u3 (blkV 0 (fun _ => 0) 0 0 (.slice none 0 0) false) 28 13 rfl).ok (c' := blkV alg h 0 0 (.slice none 0 0) false) rfl blkV_ones
           have s2 := (Hold.new u3 (blkV alg h 0 0 (.slice none 0 0) false) 28 13 rfl).load (T := 28) Tryd.underlying28 rfl (by kernel_rfl)
           have hb2 := HB.out.trans (hb.mono HB.out.size)
           replace HB := Lib.hid (hb2.alloc hb2.size (.cells (blkV alg h 0 0 (.slice none 0 0) false) 28))
           clear hb hb2 hh)
        | (go_at_call 12
           (with_reducible refine (D5.out _ HH.out _).mono ?_)
           rintro e u4 ⟨A, c, rfl, hb⟩
           replace HB := Lib.hid (HB.out.trans (hb.mono HB.out.size))
           clear hb)
        | (go_at_call 18
           (with_reducible refine (D6.out _ HB.out).mono ?_)
           rintro e u5 ⟨A, c, rfl, hb⟩
           replace HB := Lib.hid (HB.out.trans (hb.mono HB.out.size))
           clear hb))
      go_ret
      exact ⟨rfl, HB.out⟩
    | true =>
      cases b4 with
      | false =>
        cases b1 with
        | false =>
          obtain rfl : r = L2 := hr
          have D6 := Lib.hid (C6 rfl rfl (fun _ => by contradiction) rfl)
          clear C3 C4 C5 C6
          go_enter Tryd.func19, Tryd.ntmps19
          go_wp2_with (first
            | (go_at_call 36
               (with_reducible refine (D1.out _).mono ?_)
               rintro e u1 ⟨rfl, rfl⟩)
            | (go_at_call 38
               (with_reducible refine (D2.out _).mono ?_)
               rintro e u1 ⟨rfl, hb⟩
               replace HB := Lib.hid (HB.out.trans (hb.mono HB.out.size))
               replace H0 := Lib.hid (H0.out.call hb)
               have p3 : u1.cell? ⟨w.heap.size, 0, none⟩ = some (.slice A1 n1 c1) := H0.out.cell rfl
               have p4 : u1.cell? ⟨w.heap.size, 1, none⟩ = some (.slice A2 n2 c2) := H0.out.cell rfl
               clear hb)
            | (go_at_call 39
               (with_reducible refine (D3.out _).mono ?_)
               rintro e u2 ⟨rfl, hb⟩
               replace HB := Lib.hid (HB.out.trans (hb.mono HB.out.size))
               replace H0 := Lib.hid (H0.out.call hb)
               have p5 : u2.cell? ⟨w.heap.size, 0, none⟩ = some (.slice A1 n1 c1) := H0.out.cell rfl
               have p6 : u2.cell? ⟨w.heap.size, 1, none⟩ = some (.slice A2 n2 c2) := H0.out.cell rfl
               clear hb p3 p4)
            | (go_at_call 42
               (with_reducible refine (D4.out _).mono ?_)
               rintro e u3 ⟨h, hh, rfl, hb⟩
               have HH := Lib.hid hh
               have s1 := run_storeB (Hold.new u3 (blkV 0 (fun _ => 0) 0 0 (.slice none 0 0) false) 28 13 rfl).ok (c' := blkV alg h 0 0 (.slice none 0 0) false) rfl blkV_ones
               have s2 := (Hold.new u3 (blkV alg h 0 0 (.slice none 0 0) false) 28 13 rfl).load (T := 28) Tryd.underlying28 rfl (by kernel_rfl)
               have hb2 := HB.out.trans (hb.mono HB.out.size)
               replace HB := Lib.hid (hb2.alloc hb2.size (.cells (blkV alg h 0 0 (.slice none 0 0) false) 28))
               clear hb hb2 hh)
            | (go_at_call 12
               (with_reducible refine (D5.out _ HH.out _).mono ?_)
               rintro e u4 ⟨A, c, rfl, hb⟩
               replace HB := Lib.hid (HB.out.trans (hb.mono HB.out.size))
               clear hb)
            | (go_at_call 18
               (with_reducible refine (D6.out _ HB.out).mono ?_)
               rintro e u5 ⟨A, c, rfl, hb⟩
               replace HB := Lib.hid (HB.out.trans (hb.mono HB.out.size))
               clear hb))
          go_ret
          exact ⟨rfl, HB.out⟩
        | true =>
          obtain rfl : r = L1 := hr
          have D4 := Lib.hid (C4 rfl)
          have D5 := Lib.hid (C5 rfl)
          clear C3 C4 C5 C6
          go_enter Tryd.func19, Tryd.ntmps19
          go_wp2_with (first
            | (go_at_call 36
               (with_reducible refine (D1.out _).mono ?_)
               rintro e u1 ⟨rfl, rfl⟩)
            | (go_at_call 38
               (with_reducible refine (D2.out _).mono ?_)
               rintro e u1 ⟨rfl, hb⟩
               replace HB := Lib.hid (HB.out.trans (hb.mono HB.out.size))
               replace H0 := Lib.hid (H0.out.call hb)
               have p3 : u1.cell? ⟨w.heap.size, 0, none⟩ = some (.slice A1 n1 c1) := H0.out.cell rfl
               have p4 : u1.cell? ⟨w.heap.size, 1, none⟩ = some (.slice A2 n2 c2) := H0.out.cell rfl
               clear hb)
            | (go_at_call 39
               (with_reducible refine (D3.out _).mono ?_)
               rintro e u2 ⟨rfl, hb⟩
               replace HB := Lib.hid (HB.out.trans (hb.mono HB.out.size))
               replace H0 := Lib.hid (H0.out.call hb)
               have p5 : u2.cell? ⟨w.heap.size, 0, none⟩ = some (.slice A1 n1 c1) := H0.out.cell rfl
               have p6 : u2.cell? ⟨w.heap.size, 1, none⟩ = some (.slice A2 n2 c2) := H0.out.cell rfl
               clear hb p3 p4)
            | (go_at_call 42
               (with_reducible refine (D4.out _).mono ?_)
               rintro e u3 ⟨h, hh, rfl, hb⟩
               have HH := Lib.hid hh
               have s1 := run_storeB (Hold.new u3 (blkV 0 (fun _ => 0) 0 0 (.slice none 0 0) false) 28 13 rfl).ok (c' := blkV alg h 0 0 (.slice none 0 0) false) rfl blkV_ones
               have s2 := (Hold.new u3 (blkV alg h 0 0 (.slice none 0 0) false) 28 13 rfl).load (T := 28) Tryd.underlying28 rfl (by kernel_rfl)
               have hb2 := HB.out.trans (hb.mono HB.out.size)
               replace HB := Lib.hid (hb2.alloc hb2.size (.cells (blkV alg h 0 0 (.slice none 0 0) false) 28))
               clear hb hb2 hh)
            | (go_at_call 12
               (with_reducible refine (D5.out _ HH.out _).mono ?_)
               rintro e u4 ⟨A, c, rfl, hb⟩
               replace HB := Lib.hid (HB.out.trans (hb.mono HB.out.size))
               clear hb)
            | (go_at_call 18
               (with_reducible refine (D6.out _ HB.out).mono ?_)
               rintro e u5 ⟨A, c, rfl, hb⟩
               replace HB := Lib.hid (HB.out.trans (hb.mono HB.out.size))
               clear hb))
          go_ret
          exact ⟨rfl, HB.out⟩
      | true =>
        cases bE with
        | false =>
          obtain rfl : r = 0 := hr
          have D3 := Lib.hid (C3 rfl)
          clear C3 C4 C5 C6
          go_enter Tryd.func19, Tryd.ntmps19
          go_wp2_with (first
            | (go_at_call 36
               (with_reducible refine (D1.out _).mono ?_)
               rintro e u1 ⟨rfl, rfl⟩)
            | (go_at_call 38
               (with_reducible refine (D2.out _).mono ?_)
               rintro e u1 ⟨rfl, hb⟩
               replace HB := Lib.hid (HB.out.trans (hb.mono HB.out.size))
               replace H0 := Lib.hid (H0.out.call hb)
               have p3 : u1.cell? ⟨w.heap.size, 0, none⟩ = some (.slice A1 n1 c1) := H0.out.cell rfl
               have p4 : u1.cell? ⟨w.heap.size, 1, none⟩ = some (.slice A2 n2 c2) := H0.out.cell rfl
               clear hb)
            | (go_at_call 39
               (with_reducible refine (D3.out _).mono ?_)
               rintro e u2 ⟨rfl, hb⟩
               replace HB := Lib.hid (HB.out.trans (hb.mono HB.out.size))
               replace H0 := Lib.hid (H0.out.call hb)
               have p5 : u2.cell? ⟨w.heap.size, 0, none⟩ = some (.slice A1 n1 c1) := H0.out.cell rfl
               have p6 : u2.cell? ⟨w.heap.size, 1, none⟩ = some (.slice A2 n2 c2) := H0.out.cell rfl
               clear hb p3 p4)
            | (go_at_call 42
               (with_reducible refine (D4.out _).mono ?_)
               rintro e u3 ⟨h, hh, rfl, hb⟩
               have HH := Lib.hid hh
               have s1 := run_storeB (Hold.new u3 (blkV 0 (fun _ => 0) 0 0 (.slice none 0 0) false) 28 13 rfl).ok (c' := blkV alg h 0 0 (.slice none 0 0) false) rfl blkV_ones
               have s2 := (Hold.new u3 (blkV alg h 0 0 (.slice none 0 0) false) 28 13 rfl).load (T := 28) Tryd.underlying28 rfl (by kernel_rfl)
               have hb2 := HB.out.trans (hb.mono HB.out.size)
               replace HB := Lib.hid (hb2.alloc hb2.size (.cells (blkV alg h 0 0 (.slice none 0 0) false) 28))
               clear hb hb2 hh)
            | (go_at_call 12
               (with_reducible refine (D5.out _ HH.out _).mono ?_)
               rintro e u4 ⟨A, c, rfl, hb⟩
               replace HB := Lib.hid (HB.out.trans (hb.mono HB.out.size))
               clear hb)
            | (go_at_call 18
               (with_reducible refine (D6.out _ HB.out).mono ?_)
               rintro e u5 ⟨A, c, rfl, hb⟩
               replace HB := Lib.hid (HB.out.trans (hb.mono HB.out.size))
               clear hb))
          go_ret
          exact ⟨rfl, HB.out⟩
        | true =>
          cases b1 with
          | false =>
            obtain rfl : r = L2 := hr
            have D3 := Lib.hid (C3 rfl)
            have D6 := Lib.hid (C6 rfl rfl (fun _ => rfl) rfl)
            clear C3 C4 C5 C6
            go_enter Tryd.func19, Tryd.ntmps19
            go_wp2_with (first
              | (go_at_call 36
                 (with_reducible refine (D1.out _).mono ?_)
                 rintro e u1 ⟨rfl, rfl⟩)
              | (go_at_call 38
                 (with_reducible refine (D2.out _).mono ?_)
                 rintro e u1 ⟨rfl, hb⟩
                 replace HB := Lib.hid (HB.out.trans (hb.mono HB.out.size))
                 replace H0 := Lib.hid (H0.out.call hb)
                 have p3 : u1.cell? ⟨w.heap.size, 0, none⟩ = some (.slice A1 n1 c1) := H0.out.cell rfl
                 have p4 : u1.cell? ⟨w.heap.size, 1, none⟩ = some (.slice A2 n2 c2) := H0.out.cell rfl
                 clear hb)
              | (go_at_call 39
                 (with_reducible refine (D3.out _).mono ?_)
                 rintro e u2 ⟨rfl, hb⟩
                 replace HB := Lib.hid (HB.out.trans (hb.mono HB.out.size))
                 replace H0 := Lib.hid (H0.out.call hb)
                 have p5 : u2.cell? ⟨w.heap.size, 0, none⟩ = some (.slice A1 n1 c1) := H0.out.cell rfl
                 have p6 : u2.cell? ⟨w.heap.size, 1, none⟩ = some (.slice A2 n2 c2) := H0.out.cell rfl
                 clear hb p3 p4)
              | (go_at_call 42
                 (with_reducible refine (D4.out _).mono ?_)
                 rintro e u3 ⟨h, hh, rfl, hb⟩
                 have HH := Lib.hid hh
                 have s1 := run_storeB (Hold.new u3 (blkV 0 (fun _ => 0) 0 0 (.slice none 0 0) false) 28 13 rfl).ok (c' := blkV alg h 0 0 (.slice none 0 0) false) rfl blkV_ones
                 have s2 := (Hold.new u3 (blkV alg h 0 0 (.slice none 0 0) false) 28 13 rfl).load (T := 28) Tryd.underlying28 rfl (by kernel_rfl)
                 have hb2 := HB.out.trans (hb.mono HB.out.size)
                 replace HB := Lib.hid (hb2.alloc hb2.size (.cells (blkV alg h 0 0 (.slice none 0 0) false) 28))
                 clear hb hb2 hh)
              | (go_at_call 12
                 (with_reducible refine (D5.out _ HH.out _).mono ?_)
                 rintro e u4 ⟨A, c, rfl, hb⟩
                 replace HB := Lib.hid (HB.out.trans (hb.mono HB.out.size))
                 clear hb)
              | (go_at_call 18
                 (with_reducible refine (D6.out _ HB.out).mono ?_)
                 rintro e u5 ⟨A, c, rfl, hb⟩
                 replace HB := Lib.hid (HB.out.trans (hb.mono HB.out.size))
                 clear hb))
            go_ret
            exact ⟨rfl, HB.out⟩
          | true =>
            obtain rfl : r = L1 := hr
            have D3 := Lib.hid (C3 rfl)
            have D4 := Lib.hid (C4 rfl)
            have D5 := Lib.hid (C5 rfl)
            clear C3 C4 C5 C6
            go_enter Tryd.func19, Tryd.ntmps19
            go_wp2_with (first
              | (go_at_call 36
                 (with_reducible refine (D1.out _).mono ?_)
                 rintro e u1 ⟨rfl, rfl⟩)
              | (go_at_call 38
                 (with_reducible refine (D2.out _).mono ?_)
                 rintro e u1 ⟨rfl, hb⟩
                 replace HB := Lib.hid (HB.out.trans (hb.mono HB.out.size))
                 replace H0 := Lib.hid (H0.out.call hb)
                 have p3 : u1.cell? ⟨w.heap.size, 0, none⟩ = some (.slice A1 n1 c1) := H0.out.cell rfl
                 have p4 : u1.cell? ⟨w.heap.size, 1, none⟩ = some (.slice A2 n2 c2) := H0.out.cell rfl
                 clear hb)
              | (go_at_call 39
                 (with_reducible refine (D3.out _).mono ?_)
                 rintro e u2 ⟨rfl, hb⟩
                 replace HB := Lib.hid (HB.out.trans (hb.mono HB.out.size))
                 replace H0 := Lib.hid (H0.out.call hb)
                 have p5 : u2.cell? ⟨w.heap.size, 0, none⟩ = some (.slice A1 n1 c1) := H0.out.cell rfl
                 have p6 : u2.cell? ⟨w.heap.size, 1, none⟩ = some (.slice A2 n2 c2) := H0.out.cell rfl
                 clear hb p3 p4)
              | (go_at_call 42
                 (with_reducible refine (D4.out _).mono ?_)
                 rintro e u3 ⟨h, hh, rfl, hb⟩
                 have HH := Lib.hid hh
                 have s1 := run_storeB (Hold.new u3 (blkV 0 (fun _ => 0) 0 0 (.slice none 0 0) false) 28 13 rfl).ok (c' := blkV alg h 0 0 (.slice none 0 0) false) rfl blkV_ones
                 have s2 := (Hold.new u3 (blkV alg h 0 0 (.slice none 0 0) false) 28 13 rfl).load (T := 28) Tryd.underlying28 rfl (by kernel_rfl)
                 have hb2 := HB.out.trans (hb.mono HB.out.size)
                 replace HB := Lib.hid (hb2.alloc hb2.size (.cells (blkV alg h 0 0 (.slice none 0 0) false) 28))
                 clear hb hb2 hh)
              | (go_at_call 12
                 (with_reducible refine (D5.out _ HH.out _).mono ?_)
                 rintro e u4 ⟨A, c, rfl, hb⟩
                 replace HB := Lib.hid (HB.out.trans (hb.mono HB.out.size))
                 clear hb)
              | (go_at_call 18
                 (with_reducible refine (D6.out _ HB.out).mono ?_)
                 rintro e u5 ⟨A, c, rfl, hb⟩
                 replace HB := Lib.hid (HB.out.trans (hb.mono HB.out.size))
                 clear hb))
            go_ret
            exact ⟨rfl, HB.out⟩
  | true =>
    obtain rfl : r = 0 := hr
    clear C3 C4 C5 C6
    go_enter Tryd.func19, Tryd.ntmps19
    go_wp2_with (first
      | (go_at_call 36
         (with_reducible refine (D1.out _).mono ?_)
         rintro e u1 ⟨rfl, rfl⟩)
      | (go_at_call 38
         (with_reducible refine (D2.out _).mono ?_)
         rintro e u1 ⟨rfl, hb⟩
         replace HB := Lib.hid (HB.out.trans (hb.mono HB.out.size))
         replace H0 := Lib.hid (H0.out.call hb)
         have p3 : u1.cell? ⟨w.heap.size, 0, none⟩ = some (.slice A1 n1 c1) := H0.out.cell rfl
         have p4 : u1.cell? ⟨w.heap.size, 1, none⟩ = some (.slice A2 n2 c2) := H0.out.cell rfl
         clear hb)
      | (go_at_call 39
         (with_reducible refine (D3.out _).mono ?_)
         rintro e u2 ⟨rfl, hb⟩
         replace HB := Lib.hid (HB.out.trans (hb.mono HB.out.size))
         replace H0 := Lib.hid (H0.out.call hb)
         have p5 : u2.cell? ⟨w.heap.size, 0, none⟩ = some (.slice A1 n1 c1) := H0.out.cell rfl
         have p6 : u2.cell? ⟨w.heap.size, 1, none⟩ = some (.slice A2 n2 c2) := H0.out.cell rfl
         clear hb p3 p4)
      | (go_at_call 42
         (with_reducible refine (D4.out _).mono ?_)
         rintro e u3 ⟨h, hh, rfl, hb⟩
         have HH := Lib.hid hh
         have s1 := run_storeB (Hold.new u3 (blkV 0 (fun _ => 0) 0 0 (.slice none 0 0) false) 28 13 rfl).ok (c' := blkV alg h 0 0 (.slice none 0 0) false) rfl blkV_ones
         have s2 := (Hold.new u3 (blkV alg h 0 0 (.slice none 0 0) false) 28 13 rfl).load (T := 28) Tryd.underlying28 rfl (by kernel_rfl)
         have hb2 := HB.out.trans (hb.mono HB.out.size)
         replace HB := Lib.hid (hb2.alloc hb2.size (.cells (blkV alg h 0 0 (.slice none 0 0) false) 28))
         clear hb hb2 hh)
      | (go_at_call 12
         (with_reducible refine (D5.out _ HH.out _).mono ?_)
         rintro e u4 ⟨A, c, rfl, hb⟩
         replace HB := Lib.hid (HB.out.trans (hb.mono HB.out.size))
         clear hb)
      | (go_at_call 18
         (with_reducible refine (D6.out _ HB.out).mono ?_)
         rintro e u5 ⟨A, c, rfl, hb⟩
         replace HB := Lib.hid (HB.out.trans (hb.mono HB.out.size))
         clear hb))
    go_ret
    exact ⟨rfl, HB.out⟩
end
theorem refSize_any (alg : Int) (A1 : Option Addr) (c1 : Nat) (xs1 : List Nat) (A2 : Option Addr) (c2 : Nat) (xs2 : List Nat) (w : World) (h1 : Words .u8 w A1 xs1) (h2 : Words .u8 w A2 xs2) (l1 : xs1.length ≤ 100000) (l2 : xs2.length ≤ 100000) :
    Calls Tryd.prog 19 #[.int .i64 alg, .agg #[.slice A1 xs1.length c1, .slice A2 xs2.length c2]] w fun e w' => e = .returned (.int .i64 (sizeN (kdN (idx alg)) (sz11 alg) xs1 xs2 : Nat)) ∧ Below w.heap.size w w' := by
  have hle := kdN_le (idx alg)
  have hk := sz_kd alg
  refine refSize_core alg (kdN (idx alg)) A1 xs1.length c1 A2 xs2.length c2 _ (decide (xs1.length ≤ 1000) && decide (xs2.length ≤ 1000)) _ (decide (xs1.length = 0) && decide (xs2.length = 0)) _ (22 + 8 * (sz11 alg / 16) + sz11 alg) (207 + (nameB (kdN (idx alg)) xs1 xs2).length) _ w rfl rfl rfl
    (fun W => refKind_any alg W) (fun W => refRight17_any A1 xs1.length c1 A2 xs2.length c2 W) (fun _ W => refEmpty_any A1 xs1.length c1 A2 xs2.length c2 (by omega) (by omega) W) (fun e1 W => ?_) (fun e1 h hh W => ?_) (fun e0 _ _ e1 W hb => ?_) ?_
  · have hs : sz11 alg ≠ 0 := by rcases hk with ⟨h, _⟩ | ⟨_, h⟩; exact h; exact absurd (by rw [beq_iff_eq] at e1; omega) h
    obtain ⟨a, rfl, h1, h6⟩ : ∃ a : Nat, alg = (a : Int) ∧ 1 ≤ a ∧ a ≤ 6 := by
      rcases sz11_cases alg with ⟨_, h⟩ | ⟨_, h⟩ | ⟨h, _⟩
      · exact ⟨alg.toNat, by omega, by omega, by omega⟩
      · exact ⟨alg.toNat, by omega, by omega, by omega⟩
      · exact absurd h hs
    exact refNew_any a h1 h6 W
  · have hs : sz11 alg ≠ 0 := by rcases hk with ⟨h, _⟩ | ⟨_, h⟩; exact h; exact absurd (by rw [beq_iff_eq] at e1; omega) h
    obtain ⟨a, rfl, h1, h6⟩ : ∃ a : Nat, alg = (a : Int) ∧ 1 ≤ a ∧ a ≤ 6 := by
      rcases sz11_cases alg with ⟨_, h⟩ | ⟨_, h⟩ | ⟨h, _⟩
      · exact ⟨alg.toNat, by omega, by omega, by omega⟩
      · exact ⟨alg.toNat, by omega, by omega, by omega⟩
      · exact absurd h hs
    refine (refBlock20_any a h hh 0 0 (by omega) (by omega) none 0 [] false W (fun i hi => by cases hi) h1 h6 (by simp)).mono ?_
    rintro e w' ⟨A, c, rfl, -, -, k⟩
    rw [blkB_length _ (by simp)]
    exact ⟨A, c, rfl, k⟩
  · have h0 : kdN (idx alg) ≠ 0 := by simpa using e0
    have h1' : kdN (idx alg) ≠ 1 := fun e => by rw [e] at e1; exact absurd e1 (by decide)
    obtain ⟨a, rfl, h7, h14⟩ := idx_sponge (alg := alg) (by omega)
    refine (refSponge20_core a (by omega) (kdN (idx a)) (fun _ => 0) (fun _ => by omega) 0 (by omega) false A1 c1 xs1 A2 c2 xs2 l1 l2 W (h1.below hb (Nat.le_refl _)) (h2.below hb (Nat.le_refl _)) (fun V => refKind_any a V)).mono ?_
    rintro e w' ⟨A, c, rfl, -, -, k⟩
    rw [spgB_len]
    exact ⟨A, c, rfl, k⟩
  · unfold sizeN nmOk
    generalize kdN (idx alg) = kd at *
    generalize sz11 alg = sz at *
    rcases (show kd = 0 ∨ kd = 1 ∨ kd = 2 ∨ kd = 3 ∨ kd = 4 by omega) with rfl | rfl | rfl | rfl | rfl
    all_goals
      rcases hk with ⟨hs, he⟩ | ⟨hs, he⟩
      all_goals first
        | (exact absurd he (by decide))
        | (by_cases a1 : xs1.length = 0 <;> by_cases a2 : xs2.length = 0 <;> by_cases a3 : xs1.length ≤ 1000 <;> by_cases a4 : xs2.length ≤ 1000 <;> simp [hs, a1, a2, a3, a4] <;> omega)
end Go.Proofs.YteiemboopkbdpaaDoor.Sn
end

section
namespace Go.Proofs.YteiemboopkbdpaaDoor
open Go.RowKit
set_option linter.unusedVariables false
set_option linter.unusedSimpArgs false
def eqC (a b c d : Int) : Bool := a == c && b == d
theorem eqC_self (a b : Int) : eqC a b a b = true := by simp [eqC]
theorem run_eqlC (a b c d : Int) (w : World) : (binOp .eql 25 (.agg #[.int .u64 a, .int .u64 b]) (.agg #[.int .u64 c, .int .u64 d])).run Tryd.prog w = .ok (.bool (eqC a b c d)) w := by
  unfold eqC
  by_cases h1 : a = c <;> by_cases h2 : b = d <;> simp [go_sem, h1, h2]
theorem run_neqC (a b c d : Int) (w : World) : (binOp .neq 25 (.agg #[.int .u64 a, .int .u64 b]) (.agg #[.int .u64 c, .int .u64 d])).run Tryd.prog w = .ok (.bool (!eqC a b c d)) w := by
  unfold eqC
  by_cases h1 : a = c <;> by_cases h2 : b = d <;> simp [go_sem, h1, h2]
attribute [go_sem ↓] run_eqlC run_neqC
theorem exec_neqC {ρ : Operand → Value} {dst : Option Tmp} {x y : Operand} {ty : TypeId} {pos : String} {after : Array Edge} {guard : Option (Nat × Bool)} {p q r s : Int} (hx : ρ x = .agg #[.int .u64 p, .int .u64 q]) (hy : ρ y = .agg #[.int .u64 r, .int .u64 s]) (w : World) :
    (execOp ρ ⟨dst, .binOp .neq 25 x y 25, ty, pos, after, guard⟩).run Tryd.prog w = .ok (.value (.bool (!eqC p q r s))) w := by
  simp [execOp, hx, hy, go_sem]
theorem exec_eqlC {ρ : Operand → Value} {dst : Option Tmp} {x y : Operand} {ty : TypeId} {pos : String} {after : Array Edge} {guard : Option (Nat × Bool)} {p q r s : Int} (hx : ρ x = .agg #[.int .u64 p, .int .u64 q]) (hy : ρ y = .agg #[.int .u64 r, .int .u64 s]) (w : World) :
    (execOp ρ ⟨dst, .binOp .eql 25 x y 25, ty, pos, after, guard⟩).run Tryd.prog w = .ok (.value (.bool (eqC p q r s))) w := by
  simp [execOp, hx, hy, go_sem]
theorem wp_neqC {dst : Option Tmp} {x y : Operand} {ty : TypeId} {pos : String} {after : Array Edge} {guard : Option (Nat × Bool)} {a : Act} {w : World} {K : Act → World → Prop} {Q : Exit → Act → World → Prop} {p q r s : Int} (hx : a.eval x = .agg #[.int .u64 p, .int .u64 q]) (hy : a.eval y = .agg #[.int .u64 r, .int .u64 s])
    (h : K (a.put dst (.bool (!eqC p q r s))) w) : Oper.wp Tryd.prog ⟨dst, .binOp .neq 25 x y 25, ty, pos, after, guard⟩ a w K Q := by
  unfold Oper.wp
  rw [exec_neqC hx hy]
  exact h
theorem wp_eqlC {dst : Option Tmp} {x y : Operand} {ty : TypeId} {pos : String} {after : Array Edge} {guard : Option (Nat × Bool)} {a : Act} {w : World} {K : Act → World → Prop} {Q : Exit → Act → World → Prop} {p q r s : Int} (hx : a.eval x = .agg #[.int .u64 p, .int .u64 q]) (hy : a.eval y = .agg #[.int .u64 r, .int .u64 s])
    (h : K (a.put dst (.bool (eqC p q r s))) w) : Oper.wp Tryd.prog ⟨dst, .binOp .eql 25 x y 25, ty, pos, after, guard⟩ a w K Q := by
  unfold Oper.wp
  rw [exec_eqlC hx hy]
  exact h
attribute [go_sem] eqC_self
/-! ### Boxes of structs behind calls -/
theorem box_call {W W' : World} {n k : Nat} (hb : Below W.heap.size W W') (h : RowOk W n k) : RowOk W' n k ∧ rowAt W' n = rowAt W n ∧ n ≠ W'.heap.size := by
  have hr := h.below hb h.lt
  refine ⟨hr, ?_, Nat.ne_of_lt hr.lt⟩
  unfold rowAt
  rw [hb.block n h.lt]
theorem box_old {W W' : World} {o : Obj} {n k : Nat} (hb : Below (W.alloc o).heap.size (W.alloc o) W') (h : RowOk W n k) : RowOk W' n k ∧ rowAt W' n = rowAt W n ∧ n ≠ W'.heap.size := by
  have h1 : RowOk (W.alloc o) n k := (RowOk_alloc_past h.lt).2 h
  have h2 : rowAt (W.alloc o) n = rowAt W n := rowAt_alloc_past h.lt
  rw [← h2]; exact box_call hb h1
theorem box_new {W W' : World} {c : Array Value} {t : TypeId} {k : Nat} (hb : Below (W.alloc (.cells c t)).heap.size (W.alloc (.cells c t)) W') (h : c.size = k) : RowOk W' W.heap.size k ∧ rowAt W' W.heap.size = c ∧ W.heap.size ≠ W'.heap.size := by
  have h1 : RowOk (W.alloc (.cells c t)) W.heap.size k := (RowOk_alloc_at rfl).2 h
  have h2 : rowAt (W.alloc (.cells c t)) W.heap.size = c := rowAt_alloc_at rfl
  have h3 := box_call hb h1
  rw [h2] at h3; exact h3
theorem cOk_back (hi lo n : Nat) (hh : hi < 18446744073709551616) (hl : lo < 18446744073709551616) (hn : n < 18446744073709551616) (h : cOk (numC hi lo + n) = true) :
    cOk (subC (numC (cHi (numC hi lo + n)) (cLo (numC hi lo + n))) n) = true ∧ cHi (subC (numC (cHi (numC hi lo + n)) (cLo (numC hi lo + n))) n) = hi ∧ cLo (subC (numC (cHi (numC hi lo + n)) (cLo (numC hi lo + n))) n) = lo := by
  have h1 : numC hi lo + n < 340282366920938463463374607431768211456 := by unfold cOk at h; exact of_decide_eq_true h
  have h2 : numC (cHi (numC hi lo + n)) (cLo (numC hi lo + n)) = numC hi lo + n := by unfold cHi cLo; rw [if_pos h1, if_pos h1]; unfold numC; omega
  have h3 : numC hi lo < 340282366920938463463374607431768211456 := numC_lt hh hl
  have h4 : subC (numC hi lo + n) n = numC hi lo := by unfold subC; rw [if_pos (by omega)]; omega
  rw [h2, h4]
  unfold cOk cHi cLo
  rw [if_pos h3, if_pos h3, decide_eq_true h3]
  unfold numC
  refine ⟨rfl, by omega, by omega⟩
end Go.Proofs.YteiemboopkbdpaaDoor
end

section
namespace Go.Proofs.YteiemboopkbdpaaDoor.Sn
open Go.RowKit Rw Mk Cd L64 Al
set_option linter.unusedVariables false
set_option linter.unusedSimpArgs false
def eqN (n : Nat) (f g : Nat → Nat) : Bool := (List.range n).all fun i => ((f i : Nat) : Int) == ((g i : Nat) : Int)
theorem eqN_iff (n : Nat) (f g : Nat → Nat) : eqN n f g = true ↔ ∀ i, i < n → f i = g i := by
  unfold eqN
  rw [List.all_eq_true]
  constructor
  · intro k i hi
    have := k i (List.mem_range.2 hi)
    rw [beq_iff_eq] at this
    omega
  · intro k i hi
    have := k i (List.mem_range.1 hi)
    rw [beq_iff_eq]
    omega
theorem equalIn8 (h g : Nat → Nat) (W : World) : (Op.equalIn 10000 23 (.agg (uTab 8 h)) (.agg (uTab 8 g))).run Tryd.prog W = .ok (eqN 8 h g) W := by
  obtain ⟨i0, hi0⟩ : ∃ i, Tryd.prog.info? 22 = some i := Option.isSome_iff_exists.1 (by kernel_rfl)
  exact equalIn_arrs (P := Tryd.prog) (k := .u64) W Tryd.underlying23 Tryd.underlying22 hi0 (by kernel_rfl) (fun i => ((h i : Nat) : Int)) (fun i => ((g i : Nat) : Int)) (n := 8)
section
attribute [local go_sem ↓] load8k
set_option maxRecDepth 100000 in
set_option maxHeartbeats 4000000 in
theorem same11_core (alg alg' : Int) (h h' : Nat → Nat) (hi lo hi' lo' : Nat) (s s' : Value) (fl fl' : Bool) (u u' : Array Value) (b1 b2 b3 b4 b5 : Bool) (w : World) (hu : u.size = 13) (hu' : u'.size = 13)
    (k0 : u[0]? = some (.int .i64 alg)) (k11 : u[11]? = some s) (k12 : u[12]? = some (.bool fl)) (k0' : u'[0]? = some (.int .i64 alg')) (k11' : u'[11]? = some s') (k12' : u'[12]? = some (.bool fl'))
    (kc : ∀ W n, Hold W n 13 u → (loadRow 25 (.pointer (some ⟨n, 9, none⟩))).run Tryd.prog W = .ok (.agg #[.int .u64 (hi : Nat), .int .u64 (lo : Nat)]) W) (kh : ∀ W n, Hold W n 13 u → (loadRow 23 (.pointer (some ⟨n, 1, none⟩))).run Tryd.prog W = .ok (.agg (uTab 8 h)) W)
    (kc' : ∀ W n, Hold W n 13 u' → (loadRow 25 (.pointer (some ⟨n, 9, none⟩))).run Tryd.prog W = .ok (.agg #[.int .u64 (hi' : Nat), .int .u64 (lo' : Nat)]) W) (kh' : ∀ W n, Hold W n 13 u' → (loadRow 23 (.pointer (some ⟨n, 1, none⟩))).run Tryd.prog W = .ok (.agg (uTab 8 h')) W)
    (e1 : (alg == alg') = b1) (e2 : ∀ W, (Op.equalIn 10000 23 (.agg (uTab 8 h)) (.agg (uTab 8 h'))).run Tryd.prog W = .ok b2 W) (e3 : eqC (hi : Nat) (lo : Nat) (hi' : Nat) (lo' : Nat) = b3) (e4 : (fl == fl') = b4)
    (C5 : ∀ W, Below w.heap.size w W → Calls Tryd.prog 11 #[s, s'] W fun e w' => e = .returned (.bool b5) ∧ Below W.heap.size W w') :
    Calls Tryd.prog 44 #[.agg u, .agg u'] w fun e w' => e = .returned (.bool (b1 && (b2 && (b3 && (b4 && b5))))) ∧ Below w.heap.size w w' := by
  have hH := (Hold.new w u 28 13 hu).past (.cells u' 28)
  have hH' := Hold.new1 w (.cells u 28) u' 28 13 hu'
  have hb := ((Below.refl _ w).alloc (Nat.le_refl _) (.cells u 28)).alloc (by simp) (.cells u' 28)
  obtain ⟨U, hU⟩ : ∃ U, U = (w.alloc (.cells u 28)).alloc (.cells u' 28) := ⟨_, rfl⟩
  have q0 := hH.cell k0
  have q1 := hH.cell k11
  have q2 := hH.cell k12
  have q3 := hH'.cell k0'
  have q4 := hH'.cell k11'
  have q5 := hH'.cell k12'
  have q6 := kc _ _ hH
  have q7 := kh _ _ hH
  have q8 := kc' _ _ hH'
  have q9 := kh' _ _ hH'
  have HB := Lib.hid hb
  have D5 := Lib.hid C5
  clear hH hH' hb hU C5 kc kh kc' kh' k0 k11 k12 k0' k11' k12' hu hu'
  cases b1 with
  | false =>
    go_enter Tryd.func44, Tryd.ntmps44
    go_wp2_with (go_at_call 11; (with_reducible refine (D5.out _ HB.out).mono ?_); rintro e u1 ⟨rfl, hb⟩; replace HB := Lib.hid (HB.out.trans (hb.mono HB.out.size)); clear hb)
    go_ret
    refine ⟨?_, HB.out⟩
    simp
  | true =>
    cases b2 with
    | false =>
      go_enter Tryd.func44, Tryd.ntmps44
      go_wp2_with (go_at_call 11; (with_reducible refine (D5.out _ HB.out).mono ?_); rintro e u1 ⟨rfl, hb⟩; replace HB := Lib.hid (HB.out.trans (hb.mono HB.out.size)); clear hb)
      go_ret
      refine ⟨?_, HB.out⟩
      simp
    | true =>
      cases b3 with
      | false =>
        go_enter Tryd.func44, Tryd.ntmps44
        go_wp2_with (go_at_call 11; (with_reducible refine (D5.out _ HB.out).mono ?_); rintro e u1 ⟨rfl, hb⟩; replace HB := Lib.hid (HB.out.trans (hb.mono HB.out.size)); clear hb)
        go_ret
        refine ⟨?_, HB.out⟩
        simp
      | true =>
        cases b4 with
        | false =>
          go_enter Tryd.func44, Tryd.ntmps44
          go_wp2_with (go_at_call 11; (with_reducible refine (D5.out _ HB.out).mono ?_); rintro e u1 ⟨rfl, hb⟩; replace HB := Lib.hid (HB.out.trans (hb.mono HB.out.size)); clear hb)
          go_ret
          refine ⟨?_, HB.out⟩
          simp
        | true =>
          go_enter Tryd.func44, Tryd.ntmps44
          go_wp2_with (go_at_call 11; (with_reducible refine (D5.out _ HB.out).mono ?_); rintro e u1 ⟨rfl, hb⟩; replace HB := Lib.hid (HB.out.trans (hb.mono HB.out.size)); clear hb)
          go_ret
          refine ⟨?_, HB.out⟩
          simp
end
def same11 (alg alg' : Int) (h h' : Nat → Nat) (hi lo hi' lo' : Nat) (xs xs' : List Nat) (fl fl' : Bool) : Bool := (alg == alg') && (eqN 8 h h' && (eqC (hi : Nat) (lo : Nat) (hi' : Nat) (lo' : Nat) && ((fl == fl') && sameB xs xs')))
theorem refSame11_any (alg alg' : Int) (h h' : Nat → Nat) (hi lo hi' lo' : Nat) (A : Option Addr) (c : Nat) (xs : List Nat) (A' : Option Addr) (c' : Nat) (xs' : List Nat) (fl fl' : Bool) (w : World) (hx : AllLt 256 xs) (hx' : AllLt 256 xs') (l : xs.length ≤ 1000000) (l' : xs'.length ≤ 1000000) (hw : Words .u8 w A xs) (hw' : Words .u8 w A' xs') :
    Calls Tryd.prog 44 #[.agg (blkV alg h hi lo (.slice A xs.length c) fl), .agg (blkV alg' h' hi' lo' (.slice A' xs'.length c') fl')] w fun e w' => e = .returned (.bool (same11 alg alg' h h' hi lo hi' lo' xs xs' fl fl')) ∧ Below w.heap.size w w' :=
  same11_core alg alg' h h' hi lo hi' lo' _ _ fl fl' _ _ _ _ _ _ _ w rfl rfl rfl rfl rfl rfl rfl rfl (fun _ _ H => blk_count H) (fun _ _ H => blk_hs H) (fun _ _ H => blk_count H) (fun _ _ H => blk_hs H) rfl (fun W => equalIn8 h h' W) rfl rfl
    (fun W hb => Cd.same_any xs xs' hx hx' l l' W A c A' c' (hw.below hb (Nat.le_refl _)) (hw'.below hb (Nat.le_refl _)))
theorem equalIn25 (h g : Nat → Nat) (W : World) : (Op.equalIn 10000 40 (.agg (uTab 25 h)) (.agg (uTab 25 g))).run Tryd.prog W = .ok (eqN 25 h g) W := by
  obtain ⟨i0, hi0⟩ : ∃ i, Tryd.prog.info? 22 = some i := Option.isSome_iff_exists.1 (by kernel_rfl)
  exact equalIn_arrs (P := Tryd.prog) (k := .u64) W Tryd.underlying40 Tryd.underlying22 hi0 (by kernel_rfl) (fun i => ((h i : Nat) : Int)) (fun i => ((g i : Nat) : Int)) (n := 25)
set_option maxRecDepth 100000 in
set_option maxHeartbeats 4000000 in
theorem same20_core (alg alg' : Int) (f f' : Nat → Nat) (p p' : Int) (rd rd' : Bool) (s1 s2 s1' s2' : Value) (u u' : Array Value) (b1 b2 b3 b4 b5 : Bool) (w : World) (hu : u.size = 30) (hu' : u'.size = 30)
    (k0 : u[0]? = some (.int .i64 alg)) (k26 : u[26]? = some (.int .i64 p)) (k27 : u[27]? = some (.bool rd)) (k28 : u[28]? = some s1) (k29 : u[29]? = some s2)
    (k0' : u'[0]? = some (.int .i64 alg')) (k26' : u'[26]? = some (.int .i64 p')) (k27' : u'[27]? = some (.bool rd')) (k28' : u'[28]? = some s1') (k29' : u'[29]? = some s2')
    (kh : ∀ W n, Hold W n 30 u → (loadRow 40 (.pointer (some ⟨n, 1, none⟩))).run Tryd.prog W = .ok (.agg (uTab 25 f)) W) (kh' : ∀ W n, Hold W n 30 u' → (loadRow 40 (.pointer (some ⟨n, 1, none⟩))).run Tryd.prog W = .ok (.agg (uTab 25 f')) W)
    (e1 : (alg == alg') = b1) (e2 : ∀ W, (Op.equalIn 10000 40 (.agg (uTab 25 f)) (.agg (uTab 25 f'))).run Tryd.prog W = .ok b2 W) (e3 : (p == p') = b3) (e4 : (rd == rd') = b4)
    (C5 : ∀ W, Below w.heap.size w W → Calls Tryd.prog 61 #[.agg #[s1, s2], .agg #[s1', s2']] W fun e w' => e = .returned (.bool b5) ∧ Below W.heap.size W w') :
    Calls Tryd.prog 43 #[.agg u, .agg u'] w fun e w' => e = .returned (.bool (b1 && (b2 && (b3 && (b4 && b5))))) ∧ Below w.heap.size w w' := by
  have hH := (Hold.new w u 42 30 hu).past (.cells u' 42)
  have hH' := Hold.new1 w (.cells u 42) u' 42 30 hu'
  have hb := ((Below.refl _ w).alloc (Nat.le_refl _) (.cells u 42)).alloc (by simp) (.cells u' 42)
  have q0 := hH.cell k0
  have q1 := hH.cell k26
  have q2 := hH.cell k27
  have q3 := hH.cell k28
  have q4 := hH.cell k29
  have r0 := hH'.cell k0'
  have r1 := hH'.cell k26'
  have r2 := hH'.cell k27'
  have r3 := hH'.cell k28'
  have r4 := hH'.cell k29'
  have q7 := kh _ _ hH
  have q9 := kh' _ _ hH'
  have HB := Lib.hid hb
  have D5 := Lib.hid C5
  clear hH hH' hb C5 kh kh' k0 k26 k27 k28 k29 k0' k26' k27' k28' k29' hu hu'
  cases b1 with
  | false =>
    go_enter Tryd.func43, Tryd.ntmps43
    go_wp2_with (go_at_call 61; (with_reducible refine (D5.out _ HB.out).mono ?_); rintro e u1 ⟨rfl, hb⟩; replace HB := Lib.hid (HB.out.trans (hb.mono HB.out.size)); clear hb)
    go_ret
    refine ⟨?_, HB.out⟩
    simp
  | true =>
    cases b2 with
    | false =>
      go_enter Tryd.func43, Tryd.ntmps43
      go_wp2_with (go_at_call 61; (with_reducible refine (D5.out _ HB.out).mono ?_); rintro e u1 ⟨rfl, hb⟩; replace HB := Lib.hid (HB.out.trans (hb.mono HB.out.size)); clear hb)
      go_ret
      refine ⟨?_, HB.out⟩
      simp
    | true =>
      cases b3 with
      | false =>
        go_enter Tryd.func43, Tryd.ntmps43
        go_wp2_with (go_at_call 61; (with_reducible refine (D5.out _ HB.out).mono ?_); rintro e u1 ⟨rfl, hb⟩; replace HB := Lib.hid (HB.out.trans (hb.mono HB.out.size)); clear hb)
        go_ret
        refine ⟨?_, HB.out⟩
        simp
      | true =>
        cases b4 with
        | false =>
          go_enter Tryd.func43, Tryd.ntmps43
          go_wp2_with (go_at_call 61; (with_reducible refine (D5.out _ HB.out).mono ?_); rintro e u1 ⟨rfl, hb⟩; replace HB := Lib.hid (HB.out.trans (hb.mono HB.out.size)); clear hb)
          go_ret
          refine ⟨?_, HB.out⟩
          simp
        | true =>
          go_enter Tryd.func43, Tryd.ntmps43
          go_wp2_with (go_at_call 61; (with_reducible refine (D5.out _ HB.out).mono ?_); rintro e u1 ⟨rfl, hb⟩; replace HB := Lib.hid (HB.out.trans (hb.mono HB.out.size)); clear hb)
          go_ret
          refine ⟨?_, HB.out⟩
          simp
def same20 (alg alg' : Int) (f f' : Nat → Nat) (p p' : Int) (rd rd' : Bool) (xs1 xs2 ys1 ys2 : List Nat) : Bool := (alg == alg') && (eqN 25 f f' && ((p == p') && ((rd == rd') && (sameB xs1 ys1 && sameB xs2 ys2))))
theorem refSame20_any (alg alg' : Int) (f f' : Nat → Nat) (p p' : Int) (rd rd' : Bool) (A1 : Option Addr) (c1 : Nat) (xs1 : List Nat) (A2 : Option Addr) (c2 : Nat) (xs2 : List Nat) (B1 : Option Addr) (d1 : Nat) (ys1 : List Nat) (B2 : Option Addr) (d2 : Nat) (ys2 : List Nat) (w : World)
    (hx1 : AllLt 256 xs1) (hx2 : AllLt 256 xs2) (hy1 : AllLt 256 ys1) (hy2 : AllLt 256 ys2) (l1 : xs1.length ≤ 1000000) (l2 : xs2.length ≤ 1000000) (l3 : ys1.length ≤ 1000000) (l4 : ys2.length ≤ 1000000)
    (h1 : Words .u8 w A1 xs1) (h2 : Words .u8 w A2 xs2) (h3 : Words .u8 w B1 ys1) (h4 : Words .u8 w B2 ys2) :
    Calls Tryd.prog 43 #[.agg (spV alg f p rd (.slice A1 xs1.length c1) (.slice A2 xs2.length c2)), .agg (spV alg' f' p' rd' (.slice B1 ys1.length d1) (.slice B2 ys2.length d2))] w fun e w' => e = .returned (.bool (same20 alg alg' f f' p p' rd rd' xs1 xs2 ys1 ys2)) ∧ Below w.heap.size w w' :=
  same20_core alg alg' f f' p p' rd rd' _ _ _ _ _ _ _ _ _ _ _ w spV_size spV_size spV_0 spV_26 spV_27 spV_28 spV_29 spV_0 spV_26 spV_27 spV_28 spV_29 (fun _ _ H => sp_lanes H) (fun _ _ H => sp_lanes H) rfl (fun W => equalIn25 f f' W) rfl rfl
    (fun W hb => refSame17_any A1 c1 xs1 A2 c2 xs2 B1 d1 ys1 B2 d2 ys2 hx1 hx2 hy1 hy2 l1 l2 l3 l4 W (h1.below hb (Nat.le_refl _)) (h2.below hb (Nat.le_refl _)) (h3.below hb (Nat.le_refl _)) (h4.below hb (Nat.le_refl _)))
end Go.Proofs.YteiemboopkbdpaaDoor.Sn
end

section
namespace Go.Proofs.YteiemboopkbdpaaDoor.Sn
open Go.RowKit Rw Mk Cd L64 Al Ln
set_option linter.unusedVariables false
set_option linter.unusedSimpArgs false
theorem sameB_self (xs : List Nat) : sameB xs xs = true := by unfold sameB; simp
set_option maxRecDepth 20000 in
theorem wakes20_any (w : World) (hT : ATab w) : Calls Tryd.prog 8 #[] w fun e w' => e = .returned (.bool true) ∧ Below w.heap.size w w' := by
  have C1 : Hid (∀ W, ATab W → Calls Tryd.prog 13 #[.int .i64 2, .agg #[.slice none 0 0, .slice none 0 0]] W fun e w' => e = .returned (.int .i64 118) ∧ Below W.heap.size W w') := fun W h =>
    size_any 2 none 0 [] none 0 [] (fun x hx => by cases hx) (fun x hx => by cases hx) W h (fun i hi => by cases hi) (fun i hi => by cases hi)
  have C2 : Hid (∀ W, ATab W → Calls Tryd.prog 13 #[.int .i64 8, .agg #[.slice none 0 0, .slice none 0 0]] W fun e w' => e = .returned (.int .i64 207) ∧ Below W.heap.size W w') := fun W h =>
    size_any 8 none 0 [] none 0 [] (fun x hx => by cases hx) (fun x hx => by cases hx) W h (fun i hi => by cases hi) (fun i hi => by cases hi)
  have HT := Lib.hid hT
  clear hT
  go_enter Tryd.func8, Tryd.ntmps8
  go_wp2_with (first
    | (go_at_call 13; ((with_reducible refine (C1.out _ HT.out).mono ?_); rintro e u1 ⟨rfl, hb⟩; have HB := Lib.hid hb; have HT1 := Lib.hid (HT.out.below hb (Nat.le_refl _)); clear hb))
    | (go_at_call 13; ((with_reducible refine (C2.out _ HT1.out).mono ?_); rintro e u2 ⟨rfl, hb⟩; replace HB := Lib.hid (HB.out.trans (hb.mono HB.out.size)); clear hb)))
  go_ret
  exact ⟨rfl, HB.out⟩
structure SB (w : World) (n k : Nat) (u : Array Value) (A : Option Addr) (xs : List Nat) (W : World) : Prop where
  below : Below w.heap.size w W
  hold : Hold W n k u
  words : Words .u8 W A xs
  tab : ATab W
theorem SB.call {w W W' : World} {n k : Nat} {u : Array Value} {A : Option Addr} {xs : List Nat} (h : SB w n k u A xs W) (hb : Below W.heap.size W W') : SB w n k u A xs W' :=
  ⟨h.below.trans (hb.mono h.below.size), h.hold.call hb, h.words.below hb (Nat.le_refl _), h.tab.below hb (Nat.le_refl _)⟩
section
attribute [local go_sem ↓] loadB
set_option maxRecDepth 100000 in
set_option maxHeartbeats 4000000 in
theorem snapBlocks_walk (w : World) (hT : ATab w) (alg : Int) (h : Nat → Nat) (hh : ∀ i, h i < 18446744073709551616) (hi lo : Nat) (hhi : hi < 18446744073709551616) (hlo : lo < 18446744073709551616) (A : Option Addr) (c : Nat) (xs : List Nat) (hx : AllLt 256 xs) (hm : xs.length ≤ maxLen) (hw : Words .u8 w A xs) (fl : Bool) :
    Calls Tryd.prog 3 #[.agg (blkV alg h hi lo (.slice A xs.length c) fl)] w fun e w' => e = .returned (.bool true) ∧ Below w.heap.size w w' := by
  have hb0 : Below w.heap.size w (w.alloc (.cells (blkV alg h hi lo (.slice A xs.length c) fl) 28)) := (Below.refl _ w).alloc (Nat.le_refl _) _
  have HS : Hid (SB w w.heap.size 13 (blkV alg h hi lo (.slice A xs.length c) fl) A xs (w.alloc (.cells (blkV alg h hi lo (.slice A xs.length c) fl) 28))) := ⟨hb0, Hold.new w _ _ 13 rfl, hw.below hb0 (Nat.le_refl _), hT.below hb0 (Nat.le_refl _)⟩
  have K11 : Hid ((blkV alg h hi lo (.slice A xs.length c) fl)[11]? = some (.slice A xs.length c)) := rfl
  have HK := Lib.hid (fun W hW => wakes20_any W hW)
  clear hT hb0 hw
  by_cases h300 : 300 < xs.length
  · have d1 : decide ((300 : Int) < (xs.length : Int)) = true := decide_eq_true (by omega)
    have d2 : decide ((xs.length : Int) > 300) = true := decide_eq_true (by omega)
    clear hm hh hhi hlo hx h300
    generalize blkV alg h hi lo (.slice A xs.length c) fl = u at *
    go_enter Tryd.func3, Tryd.ntmps3
    go_wp2_with (go_at_call 8; (with_reducible refine (HK.out _ HS.out.tab).mono ?_); rintro e u1 ⟨rfl, hb⟩; replace HS := Lib.hid (HS.out.call hb); have q1 : u1.cell? ⟨w.heap.size, 11, none⟩ = some (.slice A xs.length c) := HS.out.hold.cell K11.out; clear hb)
    go_ret
    exact ⟨rfl, HS.out.below⟩
  · have d1 : decide ((300 : Int) < (xs.length : Int)) = false := decide_eq_false (by omega)
    have d2 : decide ((xs.length : Int) > 300) = false := decide_eq_false (by omega)
    have CR := Lib.hid (fun W => refRight11_any alg h hi lo hhi hlo A xs.length c fl W)
    by_cases hr : right11 alg h (numC hi lo) xs.length = true
    · obtain ⟨a, rfl, h1a, ha6, hnl, -⟩ := right11_spec hr
      have CB := Lib.hid (fun W hT hW => snapBlock_yes a h hh hi lo hhi hlo A c xs fl W hr hT hW)
      have CF := Lib.hid (fun W hW => refBlock20_any a h hh hi lo hhi hlo A c xs fl W hW h1a ha6 (Nat.le_of_lt hnl))
      rw [hr] at CR
      have hlt := blkB_lt (sz := sz11 (a : Int)) (h := h) (hi := hi) (lo := lo) fl (show a < 256 by omega) hx
      have hlen := blkB_length (alg := a) (sz := sz11 (a : Int)) (h := h) (hi := hi) (lo := lo) fl (Nat.le_of_lt hnl)
      have hsz : sz11 (a : Int) ≤ 128 ∧ sz11 (a : Int) ≠ 0 := by rcases sz11_cases (a : Int) with ⟨e, _⟩ | ⟨e, _⟩ | ⟨e, e2⟩ <;> omega
      have hN : nmOk (kdN (idx (a : Int))) ([] : List Nat).length ([] : List Nat).length = true := by
        rcases sz_kd (a : Int) with ⟨_, e⟩ | ⟨e, _⟩
        · rw [e]; rfl
        · exact absurd e hsz.2
      have CZ : Hid (∀ W, ATab W → Calls Tryd.prog 13 #[.int .i64 (a : Nat), .agg #[.slice none 0 0, .slice none 0 0]] W fun e w' => e = .returned (.int .i64 ((blkB a (sz11 (a : Int)) h hi lo xs fl).length : Nat)) ∧ Below W.heap.size W w') := fun W hT => by
        have := size_any (a : Int) none 0 [] none 0 [] (fun x hx => by cases hx) (fun x hx => by cases hx) W hT (fun i hi => by cases hi) (fun i hi => by cases hi)
        rw [show sizeN (kdN (idx (a : Int))) (sz11 (a : Int)) [] [] = (blkB a (sz11 (a : Int)) h hi lo xs fl).length by rw [hlen]; unfold sizeN; rw [hN, if_pos rfl, if_pos hsz.2]] at this
        exact this
      have hl2 : (blkB a (sz11 (a : Int)) h hi lo xs fl).length ≤ 1000000 := by rw [hlen]; omega
      have K0 : Hid ((blkV a h hi lo (.slice A xs.length c) fl)[0]? = some (.int .i64 (a : Nat))) := rfl
      clear hm hh hhi hlo hx h300 hr h1a ha6 hnl hlen hsz hN
      generalize blkB a (sz11 (a : Int)) h hi lo xs fl = zz at *
      have CS : Hid (∀ W B1 d1 B2 d2, Words .u8 W B1 zz → Words .u8 W B2 zz → Calls Tryd.prog 11 #[.slice B1 zz.length d1, .slice B2 zz.length d2] W fun e w' => e = .returned (.bool true) ∧ Below W.heap.size W w') := fun W B1 d1 B2 d2 k1 k2 => by
        have := Cd.same_any zz zz hlt hlt hl2 hl2 W B1 d1 B2 d2 k1 k2
        rwa [sameB_self] at this
      clear hlt hl2
      generalize blkV a h hi lo (.slice A xs.length c) fl = u at *
      go_enter Tryd.func3, Tryd.ntmps3
      go_wp2_with (first
        | (go_at_call 8
           (with_reducible refine (HK.out _ HS.out.tab).mono ?_)
           rintro e u1 ⟨rfl, hb⟩
           replace HS := Lib.hid (HS.out.call hb)
           have q1 : u1.cell? ⟨w.heap.size, 11, none⟩ = some (.slice A xs.length c) := HS.out.hold.cell K11.out
           have q2 := HS.out.hold.load (T := 28) Tryd.underlying28 rfl (by kernel_rfl)
           clear hb)
        | (go_at_call 9
           (with_reducible refine (CB.out _ HS.out.tab HS.out.words).mono ?_)
           rintro e u2 ⟨B1, e1, rfl, -, k1, hb⟩
           replace HS := Lib.hid (HS.out.call hb)
           have HV := Lib.hid k1
           have q3 := HS.out.hold.load (T := 28) Tryd.underlying28 rfl (by kernel_rfl)
           clear hb k1 q1 q2)
        | (go_at_call 10
           (with_reducible refine (CR.out _).mono ?_)
           rintro e u3 ⟨rfl, hb⟩
           replace HS := Lib.hid (HS.out.call hb)
           replace HV := Lib.hid (HV.out.below hb (Nat.le_refl _))
           have q4 := HS.out.hold.load (T := 28) Tryd.underlying28 rfl (by kernel_rfl)
           clear hb q3)
        | (go_at_call 12
           (with_reducible refine (CF.out _ HS.out.words).mono ?_)
           rintro e u4 ⟨B2, e2, rfl, -, k2, hb⟩
           replace HS := Lib.hid (HS.out.call hb)
           replace HV := Lib.hid (HV.out.below hb (Nat.le_refl _))
           have HV2 := Lib.hid k2
           clear hb k2 q4)
        | (go_at_call 11
           (with_reducible refine (CS.out _ _ _ _ _ HV.out HV2.out).mono ?_)
           rintro e u5 ⟨rfl, hb⟩
           replace HS := Lib.hid (HS.out.call hb)
           have q5 : u5.cell? ⟨w.heap.size, 0, none⟩ = some (.int .i64 (a : Nat)) := HS.out.hold.cell K0.out
           clear hb HV HV2)
        | (go_at_call 13
           (with_reducible refine (CZ.out _ HS.out.tab).mono ?_)
           rintro e u6 ⟨rfl, hb⟩
           replace HS := Lib.hid (HS.out.call hb)
           clear hb))
      go_ret
      exact ⟨rfl, HS.out.below⟩
    · have hr : right11 alg h (numC hi lo) xs.length = false := by simpa using hr
      have CB := Lib.hid (fun W => snapBlock_no alg h hh hi lo hhi hlo A xs.length c fl W hr)
      rw [hr] at CR
      clear hm hh hhi hlo hx h300 hr
      generalize blkV alg h hi lo (.slice A xs.length c) fl = u at *
      go_enter Tryd.func3, Tryd.ntmps3
      go_wp2_with (first
        | (go_at_call 8
           (with_reducible refine (HK.out _ HS.out.tab).mono ?_)
           rintro e u1 ⟨rfl, hb⟩
           replace HS := Lib.hid (HS.out.call hb)
           have q1 : u1.cell? ⟨w.heap.size, 11, none⟩ = some (.slice A xs.length c) := HS.out.hold.cell K11.out
           have q2 := HS.out.hold.load (T := 28) Tryd.underlying28 rfl (by kernel_rfl)
           clear hb)
        | (go_at_call 9
           (with_reducible refine (CB.out _).mono ?_)
           rintro e u2 ⟨rfl, hb⟩
           replace HS := Lib.hid (HS.out.call hb)
           have q3 := HS.out.hold.load (T := 28) Tryd.underlying28 rfl (by kernel_rfl)
           clear hb q1 q2)
        | (go_at_call 10
           (with_reducible refine (CR.out _).mono ?_)
           rintro e u3 ⟨rfl, hb⟩
           replace HS := Lib.hid (HS.out.call hb)
           clear hb q3))
      go_ret
      exact ⟨rfl, HS.out.below⟩
end
end Go.Proofs.YteiemboopkbdpaaDoor.Sn
end

section
namespace Go.Proofs.YteiemboopkbdpaaDoor
open Go.ChangeShapes Go.WideShapes Go.ChangeAt Go.RowKit
set_option linter.unusedVariables false
set_option linter.unusedSimpArgs false
def natOf (v : Option Value) : Nat := match v with | some (.int _ n) => n.toNat | _ => 0
theorem natOf_u64 {v : Option Value} {n : Nat} (h : v = some (.int .u64 (n : Int))) : natOf v = n := by rw [h]; simp [natOf]
theorem trod_u64s {H : Type} {P : Program} {enc : TypeId × Value → H} {w : World} {base : Nat} {spare : Nat → Bool} {held : Bool} {t u : TypeId} {d o n fuel : Nat} {cs : List Value} {x : DataW H × List MemPlace}
    (h : ((List.range n).all fun i => cellTy P d t (o + i) == some u) = true) (hu : P.underlying u = some (.int .u64)) (ht : DataW.trod enc P w base spare held fuel t cs = some x) :
    ∃ f : Nat → Nat, (∀ i, f i < 18446744073709551616) ∧ ∀ i, i < n → cs[o + i]? = some (.int .u64 (f i : Nat)) := by
  have ct : ∀ i, i < n → cellTy P d t (o + i) = some u := fun i hi => by simpa using List.all_eq_true.1 h i (List.mem_range.2 hi)
  have e1 : ∀ i, i < n → ∃ m : Nat, cs[o + i]? = some (.int .u64 (m : Int)) ∧ m < 18446744073709551616 := fun i hi => trod_u64_at (ct i hi) hu ht
  refine ⟨fun i => if i < n then natOf cs[o + i]? else 0, fun i => ?_, fun i hi => ?_⟩
  · dsimp only
    split
    · rename_i hi
      obtain ⟨m, hm, hl⟩ := e1 i hi
      rw [natOf_u64 hm]; exact hl
    · omega
  · obtain ⟨m, hm, hl⟩ := e1 i hi
    dsimp only
    rw [if_pos hi, natOf_u64 hm, hm]
set_option maxRecDepth 100000 in
theorem blk_cells {H : Type} {enc : TypeId × Value → H} {W : World} {base : Nat} {held : Bool} {cs : List Value} {fuel : Nat} {x : DataW H × List MemPlace} (hl : cs.length = 13) (hf : DataW.trod enc Tryd.prog W base (fun _ => true) held fuel 28 cs = some x) :
    ∃ (alg : Int) (hf : Nat → Nat) (hi lo : Nat) (A : Option Addr) (c : Nat) (xs : List Nat) (fl : Bool), cs = (blkV alg hf hi lo (.slice A xs.length c) fl).toList ∧ (∀ i, hf i < 18446744073709551616) ∧ hi < 18446744073709551616 ∧ lo < 18446744073709551616 ∧
      AllLt 256 xs ∧ xs.length ≤ maxLen ∧ Words .u8 W A xs ∧ (Lit.int .i64 alg).wf = true := by
  obtain ⟨alg, e0, w0⟩ := trod_int_at (d := 6) (o := 0) (by kernel_rfl) Tryd.underlying3 hf
  obtain ⟨h, hh, eh⟩ := trod_u64s (d := 6) (o := 1) (n := 8) (u := 22) (by kernel_rfl) Tryd.underlying22 hf
  obtain ⟨hi, e9, w9⟩ := trod_u64_at (d := 6) (o := 9) (u := 22) (by kernel_rfl) Tryd.underlying22 hf
  obtain ⟨lo, e10, w10⟩ := trod_u64_at (d := 6) (o := 10) (u := 22) (by kernel_rfl) Tryd.underlying22 hf
  obtain ⟨A, c, xs, e11, q1, q2, q3, q4⟩ := trod_bytes_at (d := 6) (o := 11) (u := 26) (e := 5) (by kernel_rfl) Tryd.underlying26 Tryd.underlying5 (by kernel_rfl) hf
  obtain ⟨fl, e12⟩ := trod_bool_at (d := 6) (o := 12) (u := 4) (by kernel_rfl) Tryd.underlying4 hf
  refine ⟨alg, h, hi, lo, A, c, xs, fl, ?_, hh, w9, w10, q1, Nat.le_trans q2 q3, q4, w0⟩
  apply List.ext_getElem?
  intro i
  match i with
  | 0 => exact e0
  | 1 => exact eh 0 (by omega)
  | 2 => exact eh 1 (by omega)
  | 3 => exact eh 2 (by omega)
  | 4 => exact eh 3 (by omega)
  | 5 => exact eh 4 (by omega)
  | 6 => exact eh 5 (by omega)
  | 7 => exact eh 6 (by omega)
  | 8 => exact eh 7 (by omega)
  | 9 => exact e9
  | 10 => exact e10
  | 11 => exact e11
  | 12 => exact e12
  | i + 13 => rw [List.getElem?_eq_none (by omega), List.getElem?_eq_none (by show 13 ≤ i + 13; omega)]
set_option maxRecDepth 100000 in
theorem spg_cells {H : Type} {enc : TypeId × Value → H} {W : World} {base : Nat} {held : Bool} {cs : List Value} {fuel : Nat} {x : DataW H × List MemPlace} (hl : cs.length = 30) (hf : DataW.trod enc Tryd.prog W base (fun _ => true) held fuel 42 cs = some x) :
    ∃ (alg : Int) (f : Nat → Nat) (p : Int) (rd : Bool) (A1 : Option Addr) (c1 : Nat) (xs1 : List Nat) (A2 : Option Addr) (c2 : Nat) (xs2 : List Nat), cs = (Sn.spV alg f p rd (.slice A1 xs1.length c1) (.slice A2 xs2.length c2)).toList ∧ (∀ i, f i < 18446744073709551616) ∧
      AllLt 256 xs1 ∧ xs1.length ≤ maxLen ∧ Words .u8 W A1 xs1 ∧ AllLt 256 xs2 ∧ xs2.length ≤ maxLen ∧ Words .u8 W A2 xs2 ∧ (Lit.int .i64 alg).wf = true ∧ (Lit.int .i64 p).wf = true := by
  obtain ⟨alg, e0, w0⟩ := trod_int_at (d := 6) (o := 0) (by kernel_rfl) Tryd.underlying3 hf
  obtain ⟨h, hh, eh⟩ := trod_u64s (d := 6) (o := 1) (n := 25) (u := 22) (by kernel_rfl) Tryd.underlying22 hf
  obtain ⟨p, e26, w26⟩ := trod_int_at (d := 6) (o := 26) (by kernel_rfl) Tryd.underlying3 hf
  obtain ⟨rd, e27⟩ := trod_bool_at (d := 6) (o := 27) (u := 4) (by kernel_rfl) Tryd.underlying4 hf
  obtain ⟨A1, c1, xs1, e28, q1, q2, q3, q4⟩ := trod_bytes_at (d := 6) (o := 28) (u := 26) (e := 5) (by kernel_rfl) Tryd.underlying26 Tryd.underlying5 (by kernel_rfl) hf
  obtain ⟨A2, c2, xs2, e29, r1, r2, r3, r4⟩ := trod_bytes_at (d := 6) (o := 29) (u := 26) (e := 5) (by kernel_rfl) Tryd.underlying26 Tryd.underlying5 (by kernel_rfl) hf
  refine ⟨alg, h, p, rd, A1, c1, xs1, A2, c2, xs2, ?_, hh, q1, Nat.le_trans q2 q3, q4, r1, Nat.le_trans r2 r3, r4, w0, w26⟩
  apply List.ext_getElem?
  intro i
  obtain ⟨u, hu⟩ : ∃ u, u = Sn.spV alg h p rd (.slice A1 xs1.length c1) (.slice A2 xs2.length c2) := ⟨_, rfl⟩
  rw [← hu, show u.toList[i]? = u[i]? from Array.getElem?_toList, hu]
  by_cases h0 : i = 0
  · subst h0; rw [e0, Sn.spV_0]
  by_cases h1 : i < 26
  · obtain ⟨j, rfl⟩ : ∃ j, i = 1 + j := ⟨i - 1, by omega⟩
    rw [eh j (by omega), Sn.spV_lane (by omega)]
  by_cases h2 : i = 26
  · subst h2; rw [e26, Sn.spV_26]
  by_cases h3 : i = 27
  · subst h3; rw [e27, Sn.spV_27]
  by_cases h4 : i = 28
  · subst h4; rw [e28, Sn.spV_28]
  by_cases h5 : i = 29
  · subst h5; rw [e29, Sn.spV_29]
  rw [List.getElem?_eq_none (by omega), Array.getElem?_eq_none (by rw [Sn.spV_size]; omega)]
end Go.Proofs.YteiemboopkbdpaaDoor
end
