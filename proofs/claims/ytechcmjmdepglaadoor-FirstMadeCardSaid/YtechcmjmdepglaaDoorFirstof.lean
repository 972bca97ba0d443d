/- Layer 6: the first values' primes, one by one. -/
import Derived.Test.YtechcmjmdepglaaDoorFirst
import Derived.Test.YtechcmjmdepglaaDoorBund
import Derived.Laws.EntriesVeiled
namespace Go.Proofs.YtechcmjmdepglaaDoor
open Go.RowKit
set_option linter.unusedVariables false
set_option linter.unusedSimpArgs false
def upToF (f : Nat → Nat) (j : Nat) : Nat → Nat := fun i => if i < j then f i else 0
theorem upToF_step (f : Nat → Nat) (n j : Nat) (u : Int) (hu : u = (f j : Nat)) : (uTab n (upToF f j)).setIfInBounds j (.int .u64 u) = uTab n (upToF f (j + 1)) :=
  tab_set n _ _ j _ (by unfold upToF; rw [if_pos (by omega), hu]) fun i _ hn => by unfold upToF; by_cases h : i < j <;> simp [h, show i < j + 1 ↔ i < j by omega]
theorem upToF_full (f : Nat → Nat) (n : Nat) : uTab n (upToF f n) = uTab n f := tab_congr fun i hi => by unfold upToF; rw [if_pos hi]
theorem upToF_zero (f : Nat → Nat) (n : Nat) : uTab n (upToF f 0) = uTab n fun _ => 0 := tab_congr fun i _ => by simp [upToF]
set_option maxRecDepth 20000 in
set_option maxHeartbeats 4000000 in
theorem ofPrimes_any (b : Int) (fr : Nat) (hfr : fr = 0 ∨ fr = 8) (g : Nat) (w : World) (hc : w.cell? ⟨g, 0, none⟩ = some (keepV b)) :
    Calls Tryd.prog 24 #[.int .i64 (fr : Nat), .func (.func 25) #[] #[.pointer (some ⟨g, 0, none⟩)]] w fun e w' => e = .returned (.agg (uTab 8 fun i => keepB b (sN (fr + i)))) ∧ Below w.heap.size w w' := by
  have HP := Lib.hid (fun W => primes_any ((fr : Int) + 8) (by omega) (by omega) W)
  have hcap : capN ((fr : Int) + 8) = fr + 8 := by unfold capN; omega
  rw [hcap] at HP
  have HT := Lib.hid (fun i (hi : i < 16) W h => tell_any b i hi g W h)
  have HC := Lib.hid hc
  have hx := fun i => keepB_lt b (sN_lt i)
  have HX := Lib.hid hx
  clear hcap hc hx
  generalize hF : keepV b = F at *
  have hfr8 : fr ≤ 8 := by omega
  have hF0 : ∃ f : Nat → Nat, f = fun i => keepB b (sN (fr + i)) := ⟨_, rfl⟩
  obtain ⟨f, hf⟩ := hF0
  rw [← hf]
  have HFX : Hid (∀ i, f i < 18446744073709551616) := fun i => by rw [hf]; exact HX.out _
  have HTF : Hid (∀ i, i < 8 → ∀ W : World, W.cell? ⟨g, 0, none⟩ = some F → Calls Tryd.prog 25 #[.int .u64 (pN (fr + i) : Nat), .pointer (some ⟨g, 0, none⟩)] W fun e w' => e = .returned (.int .u64 (f i : Nat)) ∧ Below W.heap.size W w') := fun i hi W h => by
    rw [hf]; exact HT.out (fr + i) (by omega) W h
  clear hf HX HT
  generalize hbc : w.heap.size = bc at *
  have hgb : g < bc := hbc ▸ block_lt_of_cell HC.out
  go_enter Tryd.func24, Tryd.ntmps24
  go_wp2_with fail
  refine (HP.out _).mono ?_
  rintro e w2 ⟨X, hX, hX8, A, c, rfl, hr, hw, hb2⟩
  have hs2 : ((w.alloc (.cells (uTab 8 fun _ => 0) 24)).alloc (.cells (uTab 8 fun _ => 0) 24)).heap.size = bc + 1 + 1 := by simp [hbc]
  have B0 : Below bc w ((w.alloc (.cells (uTab 8 fun _ => 0) 24)).alloc (.cells (uTab 8 fun _ => 0) 24)) := by rw [← hbc]; exact ((Below.refl _ _).alloc (Nat.le_refl _) _).alloc (by simp) _
  have R1 : RowOk ((w.alloc (.cells (uTab 8 fun _ => 0) 24)).alloc (.cells (uTab 8 fun _ => 0) 24)) bc 8 := by subst hbc; simp [go_sem]
  have R2 : RowOk ((w.alloc (.cells (uTab 8 fun _ => 0) 24)).alloc (.cells (uTab 8 fun _ => 0) 24)) (bc + 1) 8 := by subst hbc; simp [go_sem]
  have R3 : rowAt ((w.alloc (.cells (uTab 8 fun _ => 0) 24)).alloc (.cells (uTab 8 fun _ => 0) 24)) (bc + 1) = uTab 8 fun _ => 0 := by subst hbc; simp [go_sem]
  rw [hs2] at hr hb2
  have HC2 : Hid (w2.cell? ⟨g, 0, none⟩ = some F) := ((B0.trans (hb2.mono (by omega))).cell (p := ⟨g, 0, none⟩) (hbc ▸ block_lt_of_cell HC.out)).trans HC.out
  have HB2 := Lib.hid (B0.trans (hb2.mono (by omega)))
  have S1 : RowOk w2 bc 8 := R1.past5 hb2 (by omega)
  have S2 : RowOk w2 (bc + 1) 8 := R2.past5 hb2 (by omega)
  have S3 : rowAt w2 (bc + 1) = uTab 8 fun _ => 0 := by rw [← R3]; unfold rowAt; rw [hb2.block _ (by omega)]
  obtain ⟨gp, op, rfl, hgp, -⟩ := hw.block (i := 0) (by omega)
  have hne : bc + 1 < gp := (World.ownsRow.lt hr gp rfl).1
  have HW : Hid (∀ i, i < 8 → w2.cell? ⟨gp, op + fr + i, none⟩ = some (.int .u64 (pN (fr + i) : Nat))) := fun i hi => by
    obtain ⟨g', o', e, h⟩ := hw (fr + i) (by omega)
    cases e
    rw [show op + fr + i = op + (fr + i) by omega, h, prL_pN (by omega) (by omega)]
  have hcap := (hr.capOk).1
  rw [hX] at hcap ⊢
  have HNE := Lib.hid hne
  clear R1 R2 R3 B0 hb2 hr hw hX hX8 hs2 hne HC HP hgp
  have H3 := Lib.hid S3
  clear S3
  have hfi : (0 : Int) ≤ (fr : Int) := by omega
  have hfi2 : (fr : Int) ≤ ((fr + 8 : Nat) : Int) := by omega
  go_wp2
  go_loopg [14] 8 (fun n iv wr => ∃ j : Nat, j + n = 8 ∧ iv = .int .i64 (j : Nat) ∧ RowOk wr bc 8 ∧ RowOk wr (bc + 1) 8 ∧ Hid (rowAt wr (bc + 1) = uTab 8 (upToF f j)) ∧ Hid (wr.cell? ⟨g, 0, none⟩ = some F) ∧ Hid (∀ i, i < 8 → wr.cell? ⟨gp, op + fr + i, none⟩ = some (.int .u64 (pN (fr + i) : Nat))) ∧ Hid (Below bc w wr))
  case atStart => exact ⟨0, by omega, rfl, S1, S2, by rw [upToF_zero]; exact H3.out, HC2, HW, HB2⟩
  case round =>
    clear S1 S2 H3 HC2 HW HB2
    obtain ⟨j, hj, rfl, T1, T2, HT3, HTC, HTW, HTB⟩ := hrel
    by_cases hj8 : j < 8
    · obtain ⟨n, rfl⟩ : ∃ n, gk = n + 1 := ⟨gk - 1, by omega⟩
      have hc := HTW.out j hj8
      go_wp2_with fail
      refine (HTF.out j hj8 _ HTC.out).mono ?_
      rintro e u1 ⟨rfl, hq⟩
      have U1 := T1.past5 hq T1.lt
      have U2 := T2.past5 hq T2.lt
      have U3 : rowAt u1 (bc + 1) = uTab 8 (upToF f j) := by rw [← HT3.out]; unfold rowAt; rw [hq.block _ T2.lt]
      obtain ⟨t, hgW, -⟩ := U2.heap
      rw [U3] at hgW
      have hne := HNE.out
      have f2 : u1.cell? ⟨bc + 1, j, none⟩ = some (.int .u64 (upToF f j j : Nat)) := (cell_of_row _ _ j _ _ _ hgW).trans (uTab_at 8 _ j hj8)
      have f3 : u1.frozen? ⟨bc + 1, j, none⟩ = false := frozen_row hgW
      have f4 : u1.setCell ⟨bc + 1, j, none⟩ (.int .u64 (f j : Nat)) = u1.setRow (bc + 1) (uTab 8 (upToF f (j + 1))) := by
        rw [setCell_eq_setRow _ _ _ _ _ _ _ hgW, upToF_step f 8 j _ rfl]
      have V0 := U1.other (m := bc + 1) (c := uTab 8 (upToF f (j + 1))) (by omega)
      have V1 : RowOk (u1.setRow (bc + 1) (uTab 8 (upToF f (j + 1)))) (bc + 1) 8 := (RowOk_setRow_at U2).2 (uTab_size _ _)
      have V2 := Lib.hid (rowAt_setRow_at (c := uTab 8 (upToF f (j + 1))) U2)
      have V3 : Hid ((u1.setRow (bc + 1) (uTab 8 (upToF f (j + 1)))).cell? ⟨g, 0, none⟩ = some F) := (cell_setRow_other u1 (bc + 1) _ ⟨g, 0, none⟩ (show g ≠ bc + 1 by omega)).trans ((hq.cell (p := ⟨g, 0, none⟩) (block_lt_of_cell HTC.out)).trans HTC.out)
      have V4 : Hid (∀ i, i < 8 → (u1.setRow (bc + 1) (uTab 8 (upToF f (j + 1)))).cell? ⟨gp, op + fr + i, none⟩ = some (.int .u64 (pN (fr + i) : Nat))) := fun i hi =>
        (cell_setRow_other u1 (bc + 1) _ ⟨gp, op + fr + i, none⟩ (show gp ≠ bc + 1 by omega)).trans ((hq.cell (p := ⟨gp, op + fr + i, none⟩) (block_lt_of_cell (HTW.out i hi))).trans (HTW.out i hi))
      have V5 := Lib.hid (below_setRow (HTB.out.trans (hq.mono (Nat.le_of_lt T1.lt))) (show bc ≤ bc + 1 by omega) (uTab 8 (upToF f (j + 1))))
      have hfj := HFX.out j
      have F4 := Lib.hid f4
      clear U1 U2 U3 hgW hq hne HTB HTW HTC HT3 T1 T2 f4 hc
      generalize hW9 : u1.setRow (bc + 1) (uTab 8 (upToF f (j + 1))) = W9 at *
      have f4 := F4.out
      generalize upToF f j j = y0 at *
      go_wp2
      go_roundg n
      case measure => omega
      case rel => exact ⟨j + 1, by omega, by go_num, V0, V1, V2, V3, V4, V5⟩
    · obtain rfl : j = 8 := by omega
      rw [upToF_full] at HT3
      have h3 := HT3.out
      go_wp2
      refine row_ret (P := Tryd.prog) (n := bc) (p := 4) (k := 8) (c := uTab 8 f) rfl rfl ((RowOk_setRow_at T1).2 (uTab_size _ _)) (rowAt_setRow_at T1) Tryd.underlying24 rfl (by kernel_rfl) rfl ⟨rfl, below_setRow HTB.out (by omega) _⟩
set_option maxRecDepth 20000 in
set_option maxHeartbeats 4000000 in
theorem first_any (b : Int) (w : World) : Calls Tryd.prog 15 #[.int .i64 b] w fun e w' => e = .returned (.agg (uTab 8 (firstN b))) ∧ Below w.heap.size w w' := by
  have HK := Lib.hid (fun W => kind_any b W)
  cases hb : hasB b with
  | true =>
    have hv : kindV b = .tuple #[.int .i64 (fromB b : Nat), keepV b, .bool true] := if_pos hb
    have hfr : fromB b = 0 ∨ fromB b = 8 := by unfold fromB; split <;> simp
    rw [show uTab 8 (firstN b) = uTab 8 fun i => keepB b (sN (fromB b + i)) from tab_congr fun i _ => by rw [firstN_keep hb]]
    have HO := Lib.hid (fun g W h => ofPrimes_any b (fromB b) hfr g W h)
    have sz := uTab_size 8 fun i => keepB b (sN (fromB b + i))
    have o1 := uTab_ones 8 fun i => keepB b (sN (fromB b + i))
    rw [hv] at HK
    clear hv hb hfr
    obtain ⟨kf, hkf⟩ : ∃ kf, keepV b = .func (.func kf) #[] #[] := by unfold keepV; split; exact ⟨_, rfl⟩; split <;> exact ⟨_, rfl⟩
    rw [hkf] at HK HO
    clear hkf
    generalize (uTab 8 fun i => keepB b (sN (fromB b + i))) = A at *
    generalize fromB b = fr at *
    have hmf : ∀ (fn : Fn) (first cap : Array Value) (w : World), (Instr.makeFunc fn first cap).run Tryd.prog w = .ok (.func fn first cap) w := fun _ _ _ _ => rfl
    go_enter Tryd.func15, Tryd.ntmps15
    go_wp2_with fail
    refine (HK.out _).mono ?_
    rintro e w1 ⟨rfl, rfl⟩
    go_wp2_with fail
    have hcl : ((w.alloc (.cells (uTab 8 fun _ => 0) 24)).alloc (.cells #[.func (.func kf) #[] #[]] 46)).cell? ⟨w.heap.size + 1, 0, none⟩ = some (.func (.func kf) #[] #[]) := by
      rw [show w.heap.size + 1 = (w.alloc (.cells (uTab 8 fun _ => 0) 24)).heap.size by simp, cell_of_row _ _ _ _ _ _ (heap_alloc_new _ _)]; rfl
    refine (HO.out _ _ hcl).mono ?_
    rintro e w2 ⟨rfl, hb2⟩
    have B2 := Lib.hid ((((Below.refl w.heap.size w).alloc (Nat.le_refl _) (.cells (uTab 8 fun _ => 0) 24)).alloc (by simp) (.cells #[.func (.func kf) #[] #[]] 46)).trans (hb2.mono (by simp; omega)))
    have R1 : RowOk ((w.alloc (.cells (uTab 8 fun _ => 0) 24)).alloc (.cells #[.func (.func kf) #[] #[]] 46)) w.heap.size 8 := by simp [go_sem]
    have R2 := R1.past5 hb2 R1.lt
    clear hb2 R1 hcl
    go_wp2
    refine row_ret (P := Tryd.prog) (n := w.heap.size) (p := 2) (k := 8) (c := A) rfl rfl ((RowOk_setRow_at R2).2 sz) (rowAt_setRow_at R2) Tryd.underlying24 rfl (by kernel_rfl) rfl ⟨rfl, below_setRow B2.out (Nat.le_refl _) _⟩
  | false =>
    have hv : kindV b = .tuple #[.int .i64 0, .nilFunc, .bool false] := if_neg (by rw [hb]; simp)
    rw [show uTab 8 (firstN b) = uTab 8 fun _ => 0 from tab_congr fun i _ => by rw [firstN_none hb]]
    rw [hv] at HK
    clear hv hb
    go_enter Tryd.func15, Tryd.ntmps15
    go_wp2_with fail
    refine (HK.out _).mono ?_
    rintro e w1 ⟨rfl, rfl⟩
    go_wp2
    refine row_ret (P := Tryd.prog) (n := w.heap.size) (p := 2) (k := 8) (c := uTab 8 fun _ => 0) rfl rfl (by simp [go_sem]) (by simp [go_sem]) Tryd.underlying24 rfl (by kernel_rfl) rfl ⟨rfl, ((Below.refl _ _).alloc (Nat.le_refl _) _).alloc (by simp) _⟩
end Go.Proofs.YtechcmjmdepglaaDoor
