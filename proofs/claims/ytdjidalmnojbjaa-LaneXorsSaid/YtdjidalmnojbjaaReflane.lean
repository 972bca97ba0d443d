/- Layer 14: the document's own answers: a state as bytes, and back. -/
import Derived.Test.YtdjidalmnojbjaaLanem
import Derived.Test.YtdjidalmnojbjaaLrow
import Derived.Test.YtdjidalmnojbjaaAppb
import Derived.Deep.LoopGhost
namespace Go.Proofs.Ytdjidalmnojbjaa.Ln
open Go.RowKit Rw L64
set_option linter.unusedVariables false
set_option linter.unusedSimpArgs false
theorem bytesN_take (f : Nat → Nat) (k : Nat) (h : k < 25) : (bytesN f).take (8 * (k + 1)) = (bytesN f).take (8 * k) ++ leB 8 (f k) := by
  refine ext_getD (by rw [List.length_append, List.length_take, List.length_take, bytesN_length, leB_length]; omega) fun i hi => ?_
  rw [List.length_take, bytesN_length] at hi
  rw [getD_take _ _ _ (by omega), bytesN_getD _ _ (by omega)]
  by_cases h1 : i < 8 * k
  · rw [List.getD_eq_getElem?_getD, List.getElem?_append_left (by rw [List.length_take, bytesN_length]; omega), ← List.getD_eq_getElem?_getD, getD_take _ _ _ h1, bytesN_getD _ _ (by omega)]
  · rw [List.getD_eq_getElem?_getD, List.getElem?_append_right (by rw [List.length_take, bytesN_length]; omega), ← List.getD_eq_getElem?_getD, List.length_take, bytesN_length, Nat.min_eq_left (by omega), leB_getD _ _ _ (by omega)]
    unfold laneB
    rw [show i / 8 = k by omega, show i % 8 = i - 8 * k by omega]
theorem row_addr {k : IntKind} {t : TypeId} {base : Nat} {w : World} {A : Option Addr} {n c : Nat} {xs : List Nat} (h : Row k t base w (.slice A n c) xs) (hx : 0 < xs.length) : ∃ g, A = some ⟨g, 0, none⟩ ∧ base ≤ g := by
  rcases h.2 with ⟨e, h0⟩ | ⟨g, cap, cur, e, hb, _⟩
  · omega
  · injection e with e1 _ _
    exact ⟨g, e1, hb⟩
set_option maxRecDepth 20000 in
set_option maxHeartbeats 2000000 in
theorem refBytes14_any (f : Nat → Nat) (hf : ∀ i, f i < 18446744073709551616) (w : World) :
    Calls Try.prog 11 #[.agg (uTab 25 f)] w (Gives .u8 5 (bytesN f) w) := by
  obtain ⟨i0, hi0, hz0, hz1, hz2⟩ := info_parts u8_info2
  have H0 := Hold.new w (uTab 25 f) 24 25 (uTab_size _ _)
  have HB := Lib.hid ((Below.refl w.heap.size w).alloc (Nat.le_refl _) (.cells (uTab 25 f) 24))
  go_enter Try.func11, Try.ntmps11
  go_wp2
  generalize w.alloc (.cells (uTab 25 f) 24) = w1 at *
  have H0' := Lib.hid H0
  have hlt0 := H0.lt
  clear H0
  go_loopg [3, 4] 25 (fun g v i wr => ∃ k : Nat, k + g = 25 ∧ i = .int .i64 (k : Nat) ∧ Hid (Row .u8 5 w1.heap.size wr v ((bytesN f).take (8 * k))) ∧ Hid (Below w1.heap.size w1 wr))
  case atStart => exact ⟨0, by omega, rfl, Row.nil _ _ _ _, Below.refl _ _⟩
  case round =>
    obtain ⟨k, hk, rfl, HR, HBw⟩ := hrel
    by_cases hlt : k < 25
    · obtain ⟨g, rfl⟩ : ∃ g, gk = g + 1 := ⟨gk - 1, by omega⟩
      have hk25 : (k : Int) < 25 := Int.ofNat_lt.2 hlt
      have q1 : wr.cell? ⟨w.heap.size, k, none⟩ = some (.int .u64 (f k : Nat)) := (H0'.out.below HBw.out hlt0).cell (uTab_at 25 _ k hlt)
      have hfk := hf k
      have HT := Lib.hid (bytesN_take f k hlt)
      have hzl : ((bytesN f).take (8 * k)).length ≤ 200 := by rw [List.length_take]; have := bytesN_length f; omega
      generalize (bytesN f).take (8 * k) = zs at *
      generalize f k = x at *
      go_wp2_with fail
      refine (refLittle_any x hfk 8 (by omega) _).mono ?_
      rintro e w2 h2
      obtain ⟨A2, c2, rfl, -, -, -, hw2, hb2⟩ := gives_caps h2
      obtain ⟨g2, o2, rfl, -, -⟩ := hw2.block (i := 0) (by rw [leB_length]; omega)
      have HR2 := Lib.hid (HR.out.below hb2 (Nat.le_refl _))
      have HB2 := Lib.hid (HBw.out.trans (hb2.mono HBw.out.size))
      have HW2 := Lib.hid hw2
      have hl8 : (leB 8 x).length = 8 := leB_length _ _
      clear h2 hw2 hb2 q1 HR HBw
      rw [leB_length]
      generalize leB 8 x = ys at *
      simp only []
      go_step
      refine append_bytes rfl _ _ 25 rfl w1.heap.size 5 i0 Try.underlying25 hi0 hz0 hz1 hz2 _ zs rfl HR2.out ⟨g2, o2, Option.none⟩ c2 ys (by rw [hl8]; rfl) HW2.out (by omega) HB2.out.size ?_
      intro v3 w3 h3 hg3
      have HB3 := Lib.hid (Row.grown0 HR2.out HB2.out HB2.out.size hg3)
      have HR3 := Lib.hid h3
      clear h3 hg3 HR2 HB2 HW2
      go_wp2_with fail
      go_roundg g
      case measure => omega
      case rel => exact ⟨k + 1, by omega, by go_num, by rw [HT.out]; exact HR3, HB3⟩
    · obtain rfl : k = 25 := by omega
      go_wp2
      go_ret
      have hr := HR.out
      rw [List.take_of_length_le (by rw [bytesN_length]; omega)] at hr
      exact Gives.mk (hr.mono HB.out.size) (HB.out.trans (HBw.out.mono HB.out.size))
/-- The rows of Of, and the words that it reads. -/
structure OS (w W : World) (u : Array Value) (g o : Nat) (h : Nat → Nat) : Prop where
  below : Below w.heap.size w W
  r : Hold W w.heap.size 25 (uTab 25 fun _ => 0)
  a : Hold W (w.heap.size + 1) 25 u
  l : ∀ j, j < 25 → W.cell? ⟨g, o + j, none⟩ = some (.int .u64 (h j : Nat))
  far : w.heap.size + 1 < g
theorem OS.setA {w W : World} {u : Array Value} {g o : Nat} {h : Nat → Nat} (F : OS w W u g o h) (u' : Array Value) (hu : u'.size = 25) : OS w (W.setRow (w.heap.size + 1) u') u' g o h :=
  ⟨below_setRow F.below (by omega) _, F.r.other _ (by omega), F.a.set _ hu, fun j hj => by
    rw [← F.l j hj]
    have := F.far
    unfold World.cell?
    rw [setRow_other _ _ _ _ (by show g ≠ _; omega)], F.far⟩
/-- Of a function, what is done as far as k. -/
def partN (g : Nat → Nat) (k i : Nat) : Nat := if i < k then g i else 0
theorem partN_zero (n : Nat) (g : Nat → Nat) : uTab n (partN g 0) = uTab n fun _ => 0 := uTab_congr fun i _ => if_neg (by omega)
theorem partN_full (n : Nat) (g : Nat → Nat) : uTab n (partN g n) = uTab n g := uTab_congr fun i hi => if_pos hi
theorem partN_step (n : Nat) (g : Nat → Nat) (k : Nat) (v : Int) (hv : v = (g k : Nat)) : (uTab n (partN g k)).setIfInBounds k (.int .u64 v) = uTab n (partN g (k + 1)) :=
  uTab_set n _ _ k v (by unfold partN; rw [if_pos (by omega)]; exact hv) fun i _ hn => by unfold partN; by_cases h : i < k <;> simp [h, show i < k + 1 ↔ i < k by omega]
set_option maxRecDepth 20000 in
set_option maxHeartbeats 2000000 in
theorem refOf14_any (A : Option Addr) (c : Nat) (xs : List Nat) (hx : AllLt 256 xs) (hl : xs.length = 200) (w : World) (hw : Words .u8 w A xs) :
    Calls Try.prog 22 #[.slice A 200 c] w fun e w' => e = .returned (.agg (uTab 25 (laneOf fun i => xs.getD i 0))) ∧ Below w.heap.size w w' := by
  go_enter Try.func22, Try.ntmps22
  go_wp2_with fail
  obtain ⟨w1, hw1⟩ : ∃ w1, w1 = (w.alloc (.cells (uTab 25 fun _ => 0) 24)).alloc (.cells (uTab 25 fun _ => 0) 24) := ⟨_, rfl⟩
  have HB : Below w.heap.size w w1 := by rw [hw1]; exact ((Below.refl _ w).alloc (Nat.le_refl _) _).alloc (by simp) _
  have HR : Hold w1 w.heap.size 25 (uTab 25 fun _ => 0) := by rw [hw1]; exact (Hold.new w _ _ 25 (uTab_size _ _)).past _
  have HA : Hold w1 (w.heap.size + 1) 25 (uTab 25 fun _ => 0) := by rw [hw1]; exact Hold.new1 w _ _ _ 25 (uTab_size _ _)
  have hs1 : w1.heap.size = w.heap.size + 2 := by rw [hw1]; simp
  rw [← hw1]
  have C1 := refLittle64_any A c xs hx (by omega) w1 (hw.below HB (Nat.le_refl _))
  rw [little_lanes xs hl, hl] at C1
  clear hw1
  refine C1.mono ?_
  rintro e w2 h2
  obtain ⟨A2, c2, rfl, hlc2, hcm2, hr2, hw2, hb2⟩ := gives_caps h2
  have hlen : ((List.range 25).map (laneOf fun i => xs.getD i 0)).length = 25 := by simp
  obtain ⟨g, rfl, hg⟩ := row_addr hr2 (by rw [hlen]; omega)
  have F0 : Hid (OS w w2 (uTab 25 (partN (laneOf fun i => xs.getD i 0) 0)) g 0 (laneOf fun i => xs.getD i 0)) := by
    rw [partN_zero]
    refine ⟨HB.trans (hb2.mono HB.size), HR.call hb2, HA.call hb2, fun j hj => ?_, by omega⟩
    obtain ⟨b, o, e, hc⟩ := hw2 j (by rw [hlen]; exact hj)
    cases e
    rw [getD_map _ _ _ _ hj] at hc
    exact hc
  rw [hlen]
  clear h2 hr2 hw2 hb2 HB HR HA C1 hw hlc2 hlen
  generalize hh : laneOf (fun i => xs.getD i 0) = h at *
  have HH := Lib.hid hh
  clear hh
  go_wp2_with fail
  go_loopg [5] 25 (fun g' i wr => ∃ k : Nat, k + g' = 25 ∧ i = .int .i64 (k : Nat) ∧ Hid (OS w wr (uTab 25 (partN h k)) g 0 h))
  case atStart => exact ⟨0, by omega, rfl, F0⟩
  case round =>
    clear F0
    obtain ⟨k, hk, rfl, HF⟩ := hrel
    by_cases hlt : k < 25
    · obtain ⟨g', rfl⟩ : ∃ g', gk = g' + 1 := ⟨gk - 1, by omega⟩
      have hk25 : (k : Int) < 25 := Int.ofNat_lt.2 hlt
      have q1 : wr.cell? ⟨g, k, none⟩ = some (.int .u64 (h k : Nat)) := by have := HF.out.l k hlt; rwa [Nat.zero_add] at this
      have q2 : wr.cell? ⟨w.heap.size + 1, k, none⟩ = some (.int .u64 (partN h k k : Nat)) := HF.out.a.cell (uTab_at 25 _ k hlt)
      have q3 := HF.out.a.frozen k
      have q4 := HF.out.a.setCell k
      have HS := Lib.hid (partN_step 25 h k (h k : Nat) rfl)
      have HF2 := Lib.hid (HF.out.setA ((uTab 25 (partN h k)).setIfInBounds k (.int .u64 (h k : Nat))) (by rw [Array.size_setIfInBounds, uTab_size]))
      rw [HS.out] at HF2
      clear HF
      go_wp2
      rw [HS.out]
      go_roundg g'
      case measure => omega
      case rel => exact ⟨k + 1, by omega, by go_num, HF2⟩
    · obtain rfl : k = 25 := by omega
      rw [partN_full] at HF
      have q1 : (loadRow 24 (.pointer (some ⟨w.heap.size + 1, 0, none⟩))).run Try.prog wr = .ok (.agg (uTab 25 h)) wr := HF.out.a.load Try.underlying24 rfl (by kernel_rfl)
      have q2 := HF.out.r.ok
      go_wp2
      exact row_ret (P := Try.prog) (n := w.heap.size) (p := 2) (k := 25) (c := uTab 25 h) rfl rfl (HF.out.r.set _ (uTab_size _ _)).ok (HF.out.r.set _ (uTab_size _ _)).at' Try.underlying24 rfl (by kernel_rfl) rfl ⟨by rw [HH.out], below_setRow HF.out.below (Nat.le_refl _) _⟩
end Go.Proofs.Ytdjidalmnojbjaa.Ln
