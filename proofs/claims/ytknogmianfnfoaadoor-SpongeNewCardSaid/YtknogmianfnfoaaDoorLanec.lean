/- Layer 14: the program: bytes, laid into a state. -/
import Derived.Test.YtknogmianfnfoaaDoorLaneb
namespace Go.Proofs.YtknogmianfnfoaaDoor.Ln
open Go.RowKit Rw L64
set_option linter.unusedVariables false
set_option linter.unusedSimpArgs false
/-- A part of two hundred bytes: as one step. -/
def cutB (ty : TypeId) (x : Value) (l h m : Option Value) : Sem Value := Instr.sliceAt ty x l h m
theorem cut200_hide (x : Value) (l h m : Option Value) : Instr.sliceAt 54 x l h m = cutB 54 x l h m := rfl
theorem cut200 (g a b : Nat) (hab : a < b) (hb : b ≤ 200) (w : World) : (cutB 54 (.pointer (some ⟨g, 0, none⟩)) (some (.int .i64 (a : Nat))) (some (.int .i64 (b : Nat))) none).run Tryd.prog w = .ok (.slice (some ⟨g, a, none⟩) (b - a) (200 - a)) w := by
  have h1 : (0 : Int) ≤ (a : Int) := by omega
  have h2 : (a : Int) ≤ (b : Int) := by omega
  have h3 : (sizeOf 5).run Tryd.prog w = .ok 1 w := by kernel_rfl
  have h4 : (0 : Int) ≤ (b : Int) := by omega
  have h5 : (b : Int) ≤ 200 := by omega
  unfold cutB Instr.sliceAt
  rw [Sem.run_bind, run_underlying Tryd.underlying54 w]
  simp [Result.andThen, Sem.run_bind, Instr.sureAddr, Instr.sliceBounds, Instr.sliceBound, asIntOf, h1, h2, h3, h4, h5, show ¬ 200 = a by omega, show a ≤ b by omega, hb, addr_add]
section
attribute [local go_sem ↓] cut_hide cut200_hide
set_option maxRecDepth 100000 in
set_option maxHeartbeats 2000000 in
theorem xor14_any (f : Nat → Nat) (hf : ∀ i, f i < 18446744073709551616) (p : Int) (hp : -9223372036854775808 ≤ p) (hp' : p ≤ 9223372036854775807) (A : Option Addr) (c : Nat) (xs : List Nat) (hx : AllLt 256 xs) (hl : xs.length ≤ 900) (hlc : xs.length ≤ c) (w : World) (hw : Words .u8 w A xs) :
    Calls Tryd.prog 20 #[.agg (uTab 25 f), .int .i64 p, .slice A xs.length c] w fun e w' => e = .returned (.agg (uTab 25 (xorN f p xs))) ∧ Below w.heap.size w w' := by
  have H0 := Lib.hid ((Hold.new w (uTab 25 f) 29 25 (uTab_size _ _)).past (.cells (uTab 25 fun _ => 0) 29))
  have H1 := Lib.hid (Hold.new1 w (.cells (uTab 25 f) 29) (uTab 25 fun _ => 0) 29 25 (uTab_size _ _))
  have HB := Lib.hid (((Below.refl w.heap.size w).alloc (Nat.le_refl _) (.cells (uTab 25 f) 29)).alloc (by simp) (.cells (uTab 25 fun _ => 0) 29))
  go_enter Tryd.func20, Tryd.ntmps20
  go_wp2_with fail
  refine (within_any p xs.length hp hp' (by omega) (by omega) _).mono ?_
  rintro e w1 ⟨⟨a, b, rfl, hW⟩, rfl⟩
  have HW := Lib.hid hW
  have hab := hW.le
  have hb2 := hW.top
  generalize (w.alloc (.cells (uTab 25 f) 29)).alloc (.cells (uTab 25 fun _ => 0) 29) = w1 at *
  have q1 : (loadRow 29 (.pointer (some ⟨w.heap.size, 0, none⟩))).run Tryd.prog w1 = .ok (.agg (uTab 25 f)) w1 := H0.out.load Tryd.underlying29 rfl (by kernel_rfl)
  by_cases hlt : a < b
  · have heq : ((a : Int) == (b : Int)) = false := by simp; omega
    have hlow := hW.low hlt
    obtain ⟨l, hl2⟩ : ∃ l : Nat, (l : Int) = (a : Int) - p := ⟨((a : Int) - p).toNat, by omega⟩
    have HX := Lib.hid (xor_splice (f := f) hW hlt hl2)
    clear hW
    go_wp2_with fail
    refine (bytes14_any f hf _).mono ?_
    rintro e w2 h2
    obtain ⟨A2, c2, rfl, hlc2, hcm2, -, hw2, hb2'⟩ := gives_caps h2
    obtain ⟨b2, o2, rfl, -, -⟩ := hw2.block (i := 0) (by rw [bytesN_length]; omega)
    obtain ⟨T0, hT0⟩ : ∃ T0, T0 = bTab 200 fun i => (bytesN f).getD i 0 := ⟨_, rfl⟩
    have q2 := run_load200m hw2 (bytesN_length f)
    have q2' := run_load200m (hw2.below ((Below.refl w2.heap.size w2).alloc (Nat.le_refl _) (.cells (bTab 200 fun _ => 0) 54)) (Nat.le_refl _)) (bytesN_length f)
    rw [← hT0] at q2 q2'
    have q3 : T0.size = 200 := by rw [hT0]; exact bTab_size _ _
    have q4 : OneCells T0 := by rw [hT0]; exact bTab_ones _ _
    have HT : Hid (T0 = (cellsOf .u8 (bytesN f)).toArray) := by rw [hT0, bTab_cells, bytesN_length]; rfl
    rw [bytesN_length]
    have HB2 := Lib.hid (HB.out.trans (hb2'.mono HB.out.size))
    have HA2 := Lib.hid (H1.out.call hb2')
    have HV2 := Lib.hid (hw.below HB2.out (Nat.le_refl _))
    clear hT0 h2 hw2 hlc2 hcm2 hb2' H0 H1 HB hw
    go_wp2
    have hlt2 := HA2.out.lt
    obtain ⟨W0, hW0⟩ : ∃ W0, W0 = w2.alloc (.cells T0 54) := ⟨_, rfl⟩
    have hb3 : Below w2.heap.size w2 W0.drew := by rw [hW0]; exact below_drew ((Below.refl _ _).alloc (Nat.le_refl _) _)
    have hg3 : W0.drew.heap[w2.heap.size]? = some (.cells (cellsOf .u8 (bytesN f)).toArray 54 (0, 0)) := by rw [hW0, ← HT.out]; exact heap_alloc_new _ _
    have HB3 := Lib.hid (HB2.out.trans (hb3.mono HB2.out.size))
    have HA3 := Lib.hid (HA2.out.below hb3 hlt2)
    have hw3 := HV2.out.below hb3 (Nat.le_refl _)
    have hw4 : Words .u8 W0.drew (some ⟨w2.heap.size, a, none⟩) (((bytesN f).drop a).take (b - a)) := fun i hi => by
      rw [List.length_take, List.length_drop, bytesN_length] at hi
      refine ⟨w2.heap.size, a, rfl, ?_⟩
      rw [cell_of_row _ _ _ _ _ _ hg3, List.getElem?_toArray, cellsOf_at _ _ _ (by rw [bytesN_length]; omega), getD_take _ _ _ (by omega), getD_drop]
    have hw5 := cutA_words (l := l) hw3 hlc
    have q27 := cut200 w2.heap.size a b hlt hb2
    have q35 := cut_from_run A xs.length c l (by omega)
    have k1 : IntKind.i64.wrap ((a : Int) - p) = (l : Nat) := by rw [← hl2, IntKind.wrap_i64]; omega
    have hL1 : (((bytesN f).drop a).take (b - a)).length = b - a := by rw [List.length_take, List.length_drop, bytesN_length]; omega
    have C1 := xor_any (some ⟨w2.heap.size, a, none⟩) (200 - a) (((bytesN f).drop a).take (b - a)) ((((bytesN_lt f).drop _).take _)) (by omega) (cutA A c l) (c - l) (xs.drop l) (hx.drop _) (by rw [List.length_drop]; omega) W0.drew hw4 hw5
    rw [hL1, List.length_drop] at C1
    have hX1 : (xorL (((bytesN f).drop a).take (b - a)) (xs.drop l)).length = b - a := by rw [xorL_length, hL1, List.length_drop]; omega
    have HG3 := Lib.hid hg3
    have HC1 := Lib.hid C1
    have HL3 := Lib.hid (Array.getElem?_eq_some_iff.1 hg3).1
    generalize xorL (((bytesN f).drop a).take (b - a)) (xs.drop l) = Y at *
    have HXl : Hid (∀ i, xorG f p xs i < 256) := xorG_lt hx
    clear hw3 hw4 hw5 hb3 hg3 HA2 HV2 HB2 hL1 hx q2 q2' q3 q4 C1
    have hbn : (bytesN f).length = 200 := bytesN_length f
    have HT2 := Lib.hid (bTab_list 200 (xorG f p xs))
    generalize bytesN f = Z at *
    rw [← hW0]
    clear hl2 hlow hW0
    go_region_law (first
      | (go_simp
         go_at_call 26
         (with_reducible refine (HC1.out).mono ?_)
         rintro e u1 ⟨A1, c1, rfl, hr1, hv1, hb1⟩
         obtain ⟨g1, o1, hA1, hq1, hq2⟩ := hv1.block (i := 0) (by omega)
         have HP2 : ∃ ad, A1 = some ad ∧ ∀ j v, (cellsOf .u8 Y)[j]? = some v → u1.cell? (ad.add j) = some v := ⟨_, hA1, words_add (hA1 ▸ hv1)⟩
         have hg7 : u1.heap[w2.heap.size]? = some (.cells (cellsOf .u8 Z).toArray 54 (0, 0)) := (hb1.block _ HL3.out).trans HG3.out
         have hb7 : Below w.heap.size w u1 := HB3.out.trans (hb1.mono HB3.out.size)
         have HA7 := Lib.hid (HA3.out.call hb1)
         clear hr1 hv1 hb1 hq1 hq2 hA1)
      | (refine step_copy_splice rfl (.tmp 27) (.tmp 36) 35 35 rfl 5 Tryd.underlying35 (by kernel_rfl) (some ⟨w2.heap.size, a, none⟩) A1 (b - a) (200 - a) Y.length c1 (by simp [Act.eval, Act.put]) (by simp [Act.eval, Act.put]; try exact hX1.symm)
           w2.heap.size a (cellsOf .u8 Z) 54 hg7 (cellsOf .u8 Y) (by rw [cellsOf_length, hX1]; exact (Nat.min_self _).symm) (fun _ => ⟨rfl, HP2⟩) (by rw [cellsOf_length, cellsOf_length, hX1, hbn]; omega) (cellsOf_oneCell _ _) w2.heap.size u1 (Below.refl _ _) (Nat.le_refl _) ?_
         intro w4 hg4 hb4))
    all_goals
      have HB4 := Lib.hid (hb7.trans (hb4.mono (by omega)))
      have HA4 := Lib.hid (HA7.out.below hb4 hlt2)
      have hg5 := hg4.out
      rw [HX.out, ← HT2.out] at hg5
      have q1 : (loadRow 54 (.pointer (some ⟨w2.heap.size, 0, none⟩))).run Tryd.prog w4 = .ok (.agg (bTab 200 (xorG f p xs))) w4 := load_row hg5 Tryd.underlying54 rfl (by rw [bTab_size]; kernel_rfl)
      clear hg4 hb4 hb7 HA7 hg5 HP2 hg7 HC1 hbn HL3 HB3 HA3 HG3 q27 q35 k1 hX1
      go_wp2_with fail
      refine (joined_any (xorG f p xs) HXl.out _).mono ?_
      rintro e w5 ⟨rfl, hb5⟩
      have HB5 := Lib.hid (HB4.out.trans (hb5.mono HB4.out.size))
      have HA5 := Lib.hid (HA4.out.call hb5)
      have q2 := HA5.out.ok
      clear hb5 HB4 HA4 q1
      go_wp2
      exact row_ret (P := Tryd.prog) (n := w.heap.size + 1) (p := 6) (k := 25) (c := uTab 25 (laneOf (xorG f p xs))) rfl rfl (HA5.out.set _ (uTab_size _ _)).ok (HA5.out.set _ (uTab_size _ _)).at' Tryd.underlying29 rfl (by kernel_rfl) rfl ⟨rfl, below_setRow HB5.out (by omega) _⟩
  · obtain rfl : a = b := by omega
    have heq : ((a : Int) == (a : Int)) = true := by simp
    have e : uTab 25 (xorN f p xs) = uTab 25 f := uTab_congr fun j hj => xorN_none hf (fun i hi => by rw [hW.iff i hi]; omega) j hj
    have q2 := H1.out.ok
    clear hW
    go_wp2
    refine row_ret (P := Tryd.prog) (n := w.heap.size + 1) (p := 6) (k := 25) (c := uTab 25 (xorN f p xs)) rfl rfl ?_ ?_ Tryd.underlying29 rfl (by kernel_rfl) rfl ⟨rfl, below_setRow HB.out (by omega) _⟩
    · exact (H1.out.set _ (uTab_size _ _)).ok
    · rw [e]; exact (H1.out.set _ (uTab_size _ _)).at'
end
end Go.Proofs.YtknogmianfnfoaaDoor.Ln
