/- Layer 14: the program: how far a place lies in the state, its bytes, and back. -/
import Derived.Test.YtknogmianfnfoaaDoorLanem
import Derived.Test.YtknogmianfnfoaaDoorLoadlit
import Derived.Test.YtknogmianfnfoaaDoorLrow
import Derived.Test.YtknogmianfnfoaaDoorArr
import Derived.Deep.RegionLaw
namespace Go.Proofs.YtknogmianfnfoaaDoor.Ln
open Go.RowKit Rw L64
set_option linter.unusedVariables false
set_option linter.unusedSimpArgs false
set_option maxRecDepth 20000 in
set_option maxHeartbeats 1000000 in
theorem within_any (p n : Int) (hp : -9223372036854775808 ≤ p) (hp' : p ≤ 9223372036854775807) (hn : -9223372036854775808 ≤ n) (hn' : n ≤ 9223372036854775807) (w : World) :
    Calls Tryd.prog 24 #[.int .i64 p, .int .i64 n] w fun e w' => (∃ a b : Nat, e = .returned (.tuple #[.int .i64 (a : Nat), .int .i64 (b : Nat)]) ∧ Win p n a b) ∧ w = w' := by
  go_enter Tryd.func24, Tryd.ntmps24
  go_wp2
  · go_ret2
    refine ⟨⟨0, (min (max (p + max n 0) 0) 200).toNat, ?_, ?_⟩, rfl⟩
    · rw [Int.toNat_of_nonneg (by omega)]
      simp
      omega
    · exact ⟨by omega, by omega, fun i hi => by omega, fun h => by omega⟩
  · go_ret2
    refine ⟨⟨(min p 200).toNat, (min p 200 + min (max n 0) (200 - min p 200)).toNat, ?_, ?_⟩, rfl⟩
    · rw [Int.toNat_of_nonneg (by omega), Int.toNat_of_nonneg (by omega)]
      rfl
    · exact ⟨by omega, by omega, fun i hi => by omega, fun h => by omega⟩
set_option maxRecDepth 20000 in
set_option maxHeartbeats 1000000 in
theorem bytes14_any (f : Nat → Nat) (hf : ∀ i, f i < 18446744073709551616) (w : World) :
    Calls Tryd.prog 25 #[.agg (uTab 25 f)] w (Gives .u8 5 (bytesN f) w) := by
  go_enter Tryd.func25, Tryd.ntmps25
  go_wp2_with fail
  have C1 := putL64_any (some ⟨w.heap.size, 0, none⟩) 25 ((List.range 25).map f) (AllLt.map fun i _ => hf i) (by simp) _ (words_new w 29 .u64 ((List.range 25).map f) (c := uTab 25 f) (uTab_list 25 f))
  rw [put_bytes, show ((List.range 25).map f).length = 25 by simp] at C1
  refine C1.mono ?_
  rintro e w' ⟨A', c', rfl, h1, h2, h3⟩
  rw [bytesN_length]
  have H1 := Lib.hid h1
  clear h1 C1
  go_wp2
  go_ret
  exact ⟨A', c', by rw [bytesN_length]; rfl, H1.out.mono (by simp), h2, ((Below.refl _ w).alloc (Nat.le_refl _) _).trans (h3.mono (by simp))⟩
/-- What copy makes of a row, filled as far as it goes. -/
theorem splice_all (xs ys : List Value) (h : xs.length = ys.length) : splice ys 0 xs = xs := by
  unfold splice
  rw [List.take_zero, List.nil_append, Nat.zero_add, h, List.drop_length, List.append_nil]
set_option maxRecDepth 100000 in
set_option maxHeartbeats 1000000 in
theorem joined_any (g : Nat → Nat) (hg : ∀ i, g i < 256) (w : World) :
    Calls Tryd.prog 27 #[.agg (bTab 200 g)] w fun e w' => e = .returned (.agg (uTab 25 (laneOf g))) ∧ Below w.heap.size w w' := by
  go_enter Tryd.func27, Tryd.ntmps27
  go_wp2
  obtain ⟨W, hW⟩ : ∃ W, W = ((w.alloc (.cells (bTab 200 g) 54)).alloc (.cells (uTab 25 fun _ => 0) 29)).alloc (.cells (uTab 25 fun _ => 0) 29) := ⟨_, rfl⟩
  have HA : Hold W w.heap.size 200 (bTab 200 g) := by rw [hW]; exact ((Hold.new w _ _ 200 (bTab_size _ _)).past _).past _
  have HR : Hold W (w.heap.size + 1) 25 (uTab 25 fun _ => 0) := by rw [hW]; exact (Hold.new1 w _ _ _ 25 (uTab_size _ _)).past _
  have HC : Hold W (w.heap.size + 1 + 1) 25 (uTab 25 fun _ => 0) := by rw [hW]; exact Hold.new2 w _ _ _ _ 25 (uTab_size _ _)
  have HB : Below w.heap.size w W := by rw [hW]; exact ((Below.refl _ w).alloc (Nat.le_refl _) _).alloc (by simp) _ |>.alloc (by simp; omega) _
  rw [← hW]
  clear hW
  have hL : little64 ((List.range 200).map g) = (List.range 25).map (laneOf g) := by
    rw [little_lanes _ (by simp)]
    exact List.map_congr_left fun j hj => laneOf_congr j (List.mem_range.1 hj) fun i hi => getD_map _ _ _ _ hi
  have C0 := fun U (hu : Words .u8 U (some ⟨w.heap.size, 0, none⟩) ((List.range 200).map g)) => little64_any (some ⟨w.heap.size, 0, none⟩) 200 ((List.range 200).map g) (AllLt.map fun i _ => hg i) (by simp) (by unfold maxLen; omega) (by simp) U hu
  rw [hL, show ((List.range 200).map g).length = 200 by simp] at C0
  have HW : Words .u8 W.drew (some ⟨w.heap.size, 0, none⟩) ((List.range 200).map g) := fun i hi => by
    have hi' : i < 200 := by simpa using hi
    refine ⟨w.heap.size, 0, rfl, ?_⟩
    rw [Nat.zero_add, getD_map _ _ _ _ hi']
    exact HA.drew.cell (bTab_at 200 g i hi')
  have C1 := Lib.hid (C0 _ HW)
  have hlen : ((List.range 25).map (laneOf g)).length = 25 := by simp
  obtain ⟨t, hC, _⟩ := HC.drew.heap
  rw [uTab_list] at hC
  have HCh := Lib.hid hC
  have HRd := Lib.hid HR.drew
  have HBd := Lib.hid (below_drew HB)
  have hsz : w.heap.size + 1 + 1 < W.drew.heap.size := HC.drew.lt
  have HS := Lib.hid hsz
  clear hL C0 HW HA HR HC HB hC hsz
  have HLv := Lib.hid (uTab_list 25 (laneOf g))
  generalize (List.range 25).map (laneOf g) = L at *
  go_region_law (first
    | (go_simp
       go_at_call 31
       (with_reducible refine (C1.out).mono ?_)
       rintro e u1 ⟨A1, c1, rfl, hr1, hv1, hb1⟩
       obtain ⟨g1, o1, hA1, hq1, hq2⟩ := hv1.block (i := 0) (by omega)
       have HP2 : ∃ ad, A1 = some ad ∧ ∀ j v, (cellsOf .u64 L)[j]? = some v → u1.cell? (ad.add j) = some v := ⟨_, hA1, words_add (hA1 ▸ hv1)⟩
       have hg7 : u1.heap[w.heap.size + 1 + 1]? = some (.cells (cellsOf .u64 ((List.range 25).map fun _ => 0)).toArray t (0, 0)) := (hb1.block _ HS.out).trans HCh.out
       have hb7 : Below w.heap.size w u1 := HBd.out.trans (hb1.mono HBd.out.size)
       have HR7 := Lib.hid (HRd.out.call hb1)
       clear hr1 hv1 hb1 hq1 hq2 hA1)
    | (refine step_copy_splice rfl (.tmp 4) (.tmp 6) 61 61 rfl 27 Tryd.underlying61 (by kernel_rfl) (some ⟨w.heap.size + 1 + 1, 0, none⟩) A1 25 25 L.length c1 (by simp [Act.eval, Act.put]) (by simp [Act.eval, Act.put]; exact hlen.symm)
         (w.heap.size + 1 + 1) 0 (cellsOf .u64 ((List.range 25).map fun _ => 0)) t hg7 (cellsOf .u64 L) (by rw [cellsOf_length, hlen]; decide) (fun _ => ⟨rfl, HP2⟩) (by rw [cellsOf_length, cellsOf_length, hlen]; simp) (cellsOf_oneCell _ _) (w.heap.size + 1 + 1) u1 (Below.refl _ _) (Nat.le_refl _) ?_
       intro w4 hg4 hb4))
  all_goals
    have HB4 := Lib.hid (hb7.trans (hb4.mono (by omega)))
    have HR4 := Lib.hid (HR7.out.below hb4 (by omega))
    have hC4 := hg4.out
    rw [splice_all _ _ (by rw [cellsOf_length, cellsOf_length, hlen]; simp), ← HLv.out] at hC4
    have q1 : (loadRow 29 (.pointer (some ⟨w.heap.size + 1 + 1, 0, none⟩))).run Tryd.prog w4 = .ok (.agg (uTab 25 (laneOf g))) w4 := load_row hC4 Tryd.underlying29 rfl (by rw [uTab_size]; kernel_rfl)
    have q2 := HR4.out.ok
    clear hg4 hb4 hb7 HR7 hC4 HP2 hg7 C1 hlen HCh HRd HBd HS
    go_wp2
    refine row_ret (P := Tryd.prog) (n := w.heap.size + 1) (p := 2) (k := 25) (c := uTab 25 (laneOf g)) rfl rfl (HR4.out.set _ (uTab_size _ _)).ok (HR4.out.set _ (uTab_size _ _)).at' Tryd.underlying29 rfl (by kernel_rfl) rfl ⟨rfl, below_setRow HB4.out (by omega) _⟩
end Go.Proofs.YtknogmianfnfoaaDoor.Ln
