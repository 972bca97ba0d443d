/- Layer 15: a sponge permutes, takes a part in, turns. -/
import Derived.Test.YtknogmianfnfoaaDoorSpg
import Derived.Deep.CutRange
import Derived.Deep.RegionLaw
import Derived.StillTailTactics
namespace Go.Proofs.YtknogmianfnfoaaDoor.Sg
open Go.RowKit L64 Rw Ln
set_option linter.unusedVariables false
set_option linter.unusedSimpArgs false
/-- Facts that a walk over a sponge at block n wants. -/
structure SpF (P : Program) (W : World) (n R S : Nat) (f : Nat → Nat) (p : Nat) (rd : Bool) : Prop where
  rate : W.cell? ⟨n, 0, none⟩ = some (.int .i64 (R : Nat))
  suf : W.cell? ⟨n, 1, none⟩ = some (.int .u8 (S : Nat))
  at' : W.cell? ⟨n, 27, none⟩ = some (.int .i64 (p : Nat))
  read : W.cell? ⟨n, 28, none⟩ = some (.bool rd)
  fz : ∀ i, W.frozen? ⟨n, i, none⟩ = false
theorem spF {P : Program} {W : World} {n R S : Nat} {f : Nat → Nat} {p : Nat} {rd : Bool} (h : Sp W n R S f p rd) : SpF P W n R S f p rd :=
  ⟨h.cell (spC_0 _ _ _ _ _), h.cell (spC_1 _ _ _ _ _), h.cell (spC_27 _ _ _ _ _), h.cell (spC_28 _ _ _ _ _), fun i => h.frozen i⟩
theorem sp_setp {W : World} {n R S : Nat} {f : Nat → Nat} {p : Nat} {rd : Bool} (h : Sp W n R S f p rd) (q : Nat) : W.setCell ⟨n, 27, none⟩ (.int .i64 (q : Nat)) = W.setRow n (spC R S f q rd) := by rw [h.setCell, spC_setp]
theorem sp_setr {W : World} {n R S : Nat} {f : Nat → Nat} {p : Nat} {rd : Bool} (h : Sp W n R S f p rd) (q : Bool) : W.setCell ⟨n, 28, none⟩ (.bool q) = W.setRow n (spC R S f p q) := by rw [h.setCell, spC_setr]
theorem sp_set {W : World} {n R S R' S' : Nat} {f f' : Nat → Nat} {p p' : Nat} {rd rd' : Bool} (h : Sp W n R S f p rd) : Sp (W.setRow n (spC R' S' f' p' rd')) n R' S' f' p' rd' := h.set _ (spC_size _ _ _ _ _)
set_option maxRecDepth 100000 in
set_option maxHeartbeats 1000000 in
theorem permute_any (n R S : Nat) (f : Nat → Nat) (hf : ∀ i, f i < 18446744073709551616) (p : Nat) (rd : Bool) (w : World) (hs : Sp w n R S f p rd) (ht : OTab w) (hn : 0 ≠ n) :
    Calls Tryd.prog 21 #[.pointer (some ⟨n, 0, none⟩)] w fun e w' => e = .returned (.tuple #[]) ∧ Turns n 29 (spC R S (kIt f 0 24) 0 rd) w w' := by
  have C1 : Hid (∀ W, OTab W → Calls Tryd.prog 28 #[.agg (uTab 25 f)] W fun e w' => e = .returned (.agg (uTab 25 (kIt f 0 24))) ∧ Below W.heap.size W w') := fun W h => f13_any f hf W h
  have HS := Lib.hid hs
  have q1 := run_loadSp hs
  clear hs
  go_enter Tryd.func21, Tryd.ntmps21
  go_wp2_with fail
  refine (C1.out _ ht).mono ?_
  rintro e w1 ⟨rfl, hb⟩
  have h1 := HS.out.call hb
  have q2 := run_storeSp h1 (kIt f 0 24)
  have h2 : Sp (w1.setRow n (spC R S (kIt f 0 24) p rd)) n R S (kIt f 0 24) p rd := sp_set h1
  have F2 := spF (P := Tryd.prog) h2
  have q3 := F2.at'
  have q4 := F2.fz 27
  have q5 : (w1.setRow n (spC R S (kIt f 0 24) p rd)).setCell ⟨n, 27, none⟩ (.int .i64 0) = (w1.setRow n (spC R S (kIt f 0 24) p rd)).setRow n (spC R S (kIt f 0 24) 0 rd) := sp_setp h2 0
  have T := Lib.hid ((Turns.of_below HS.out hb).set (u' := spC R S (kIt f 0 24) p rd) (spC_size _ _ _ _ _) |>.set (u' := spC R S (kIt f 0 24) 0 rd) (spC_size _ _ _ _ _))
  clear h1 h2 F2 HS hb q1
  go_wp2_with fail
  go_end0
  exact ⟨rfl, T.out⟩
def turned (R S : Nat) (f : Nat → Nat) (p : Nat) : Nat → Nat := kIt (xorN (xorN f p [S]) ((R : Int) - 1) [128]) 0 24
set_option maxRecDepth 100000 in
set_option maxHeartbeats 4000000 in
theorem turn_any (n R S : Nat) (f : Nat → Nat) (hf : ∀ i, f i < 18446744073709551616) (p : Nat) (hp : p < 1000) (hR : R < 1000) (hS : S < 256) (rd : Bool) (w : World) (hs : Sp w n R S f p rd) (ht : OTab w) (hn : 0 ≠ n) :
    Calls Tryd.prog 17 #[.pointer (some ⟨n, 0, none⟩)] w fun e w' => e = .returned (.tuple #[]) ∧ Turns n 29 (spC R S (turned R S f p) 0 true) w w' := by
  have hl1 : ∀ i, xorN f p [S] i < 18446744073709551616 := fun i => xorN_lt (by intro x hx; simp at hx; omega) i
  have hl2 : ∀ i, xorN (xorN f p [S]) ((R : Int) - 1) [128] i < 18446744073709551616 := fun i => xorN_lt (by intro x hx; simp at hx; omega) i
  have HS := Lib.hid hs
  have hlt := hs.lt
  have F1 := spF (P := Tryd.prog) hs
  have a1 := F1.rate
  have a2 := F1.suf
  have a3 := F1.at'
  have l1 := run_loadSp hs.drew
  have b1 : ∀ o, (w.alloc o).drew.cell? ⟨n, 27, none⟩ = some (.int .i64 (p : Nat)) := fun o => (spF (P := Tryd.prog) ((hs.past o).drew)).at'
  have l2 : ∀ o, (loadRow 29 (.pointer (some ⟨n, 2, none⟩))).run Tryd.prog ((w.alloc o).drew) = .ok (.agg (uTab 25 f)) (w.alloc o).drew := fun o => run_loadSp ((hs.past o).drew)
  have C1 : Hid (∀ T, Calls Tryd.prog 20 #[.agg (uTab 25 f), .int .i64 (p : Nat), .slice (some ⟨w.heap.size, 0, none⟩) 1 1] (w.alloc (.cells #[.int .u8 (S : Nat)] T)).drew fun e w' => e = .returned (.agg (uTab 25 (xorN f p [S]))) ∧ Below (w.alloc (.cells #[.int .u8 (S : Nat)] T)).drew.heap.size (w.alloc (.cells #[.int .u8 (S : Nat)] T)).drew w') := fun T =>
    xor14_any f hf p (by omega) (by omega) (some ⟨w.heap.size, 0, none⟩) 1 [S] (by intro x hx; simp at hx; omega) (by simp) (by simp) _ (words_new w T .u8 [S] rfl)
  have HO := Lib.hid ht
  clear hs F1 ht
  go_enter Tryd.func17, Tryd.ntmps17
  go_wp2_with fail
  go_cut [16] from 2 to 18 (fun v wc => v = .agg (uTab 25 (xorN f p [S])) ∧ Hid (Turns n 29 (spC R S (xorN f p [S]) p rd) w wc))
  case first =>
    go_region_law (first
      | (go_simp
         go_at_call 20
         (with_reducible refine (C1.out _).mono ?_)
         rintro e u1 ⟨rfl, hb1⟩
         have h1 := ((HS.out.past _).drew).call hb1
         have q2 := run_storeSp h1 (xorN f p [S])
         have T1 := Lib.hid (Turns.set (u' := spC R S (xorN f p [S]) p rd) (Turns.of_below HS.out ((((Below.refl _ w).alloc (Nat.le_refl _) _).drewN 1).trans (hb1.mono (by simp)))) (spC_size _ _ _ _ _))
         clear h1 hb1))
    all_goals
      go_wp2_with fail
      go_meet
      case rel => exact ⟨rfl, T1⟩
  case rest =>
  obtain ⟨rfl, T1⟩ := hcut
  clear a1 a2 a3 l1 b1 l2 C1
  have h2 := T1.out.row
  have hlt2 := h2.lt
  have F1 := spF (P := Tryd.prog) h2
  have a1 := F1.rate
  have l1 := run_loadSp h2.drew
  have b1 : ∀ o, (wc.alloc o).drew.cell? ⟨n, 0, none⟩ = some (.int .i64 (R : Nat)) := fun o => (spF (P := Tryd.prog) ((h2.past o).drew)).rate
  have l2 : ∀ o, (loadRow 29 (.pointer (some ⟨n, 2, none⟩))).run Tryd.prog ((wc.alloc o).drew) = .ok (.agg (uTab 25 (xorN f p [S]))) (wc.alloc o).drew := fun o => run_loadSp ((h2.past o).drew)
  have hw1 : IntKind.i64.wrap ((R : Int) - 1) = (R : Int) - 1 := by rw [IntKind.wrap_i64]; omega
  have C1 : Hid (∀ T, Calls Tryd.prog 20 #[.agg (uTab 25 (xorN f p [S])), .int .i64 ((R : Int) - 1), .slice (some ⟨wc.heap.size, 0, none⟩) 1 1] (wc.alloc (.cells #[.int .u8 128] T)).drew fun e w' => e = .returned (.agg (uTab 25 (xorN (xorN f p [S]) ((R : Int) - 1) [128]))) ∧ Below (wc.alloc (.cells #[.int .u8 128] T)).drew.heap.size (wc.alloc (.cells #[.int .u8 128] T)).drew w') := fun T =>
    xor14_any _ hl1 ((R : Int) - 1) (by omega) (by omega) (some ⟨wc.heap.size, 0, none⟩) 1 [128] (by intro x hx; simp at hx; omega) (by decide) (by decide) _ (words_new wc T .u8 [128] rfl)
  have H2 := Lib.hid h2
  clear h2 F1
  go_wp2_with fail
  go_cut [30] from 19 to 32 (fun v wd => v = .agg (uTab 25 (xorN (xorN f p [S]) ((R : Int) - 1) [128])) ∧ Hid (Turns n 29 (spC R S (xorN (xorN f p [S]) ((R : Int) - 1) [128]) p rd) w wd))
  case first =>
    go_region_law (first
      | (go_simp
         go_at_call 20
         (with_reducible refine (C1.out _).mono ?_)
         rintro e u1 ⟨rfl, hb1⟩
         have h1 := ((H2.out.past _).drew).call hb1
         have q2 := run_storeSp h1 (xorN (xorN f p [S]) ((R : Int) - 1) [128])
         have T2 := Lib.hid (Turns.set (u' := spC R S (xorN (xorN f p [S]) ((R : Int) - 1) [128]) p rd) (T1.out.below ((((Below.refl _ wc).alloc (Nat.le_refl _) _).drewN 1).trans (hb1.mono (by simp)))) (spC_size _ _ _ _ _))
         clear h1 hb1))
    all_goals
      go_wp2_with fail
      go_meet
      case rel => exact ⟨rfl, T2⟩
  case rest =>
  obtain ⟨rfl, T2⟩ := hcut
  clear a1 l1 b1 l2 C1 T1 H2 hw1 hlt2
  go_wp2_with fail
  refine (permute_any n R S _ hl2 p rd _ T2.out.row (HO.out.turns T2.out hn) hn).mono ?_
  rintro e w3 ⟨rfl, T3⟩
  have h3 := T3.row
  have F3 := spF (P := Tryd.prog) h3
  have q3 := F3.read
  have q4 := F3.fz 28
  have q5 := sp_setr h3 true
  have T4 := Lib.hid ((T2.out.trans T3).set (u' := spC R S (kIt (xorN (xorN f p [S]) ((R : Int) - 1) [128]) 0 24) 0 true) (spC_size _ _ _ _ _))
  clear h3 F3 T3 T2
  go_wp2_with fail
  go_end0
  exact ⟨rfl, T4.out⟩
end Go.Proofs.YtknogmianfnfoaaDoor.Sg
