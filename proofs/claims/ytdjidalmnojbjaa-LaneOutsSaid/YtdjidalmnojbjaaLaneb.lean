/- Layer 14: the program: bytes as a state; bytes of a state. -/
import Derived.Test.YtdjidalmnojbjaaLanea
import Derived.Test.YtdjidalmnojbjaaClone
import Derived.Test.YtdjidalmnojbjaaCutb
namespace Go.Proofs.Ytdjidalmnojbjaa.Ln
open Go.RowKit Rw L64
set_option linter.unusedVariables false
set_option linter.unusedSimpArgs false
set_option maxRecDepth 100000 in
set_option maxHeartbeats 1000000 in
theorem of_no (A : Option Addr) (c : Nat) (xs : List Nat) (hl : xs.length ≠ 200) (hm : xs.length ≤ maxLen) (w : World) :
    Calls Try.prog 9 #[.slice A xs.length c] w fun e w' => e = .returned (.tuple #[.agg (uTab 25 fun _ => 0), .bool false]) ∧ Below w.heap.size w w' := by
  unfold maxLen at hm
  have hb : ((xs.length : Int) != 200) = true := by simp; omega
  go_enter Try.func9, Try.ntmps9
  go_wp2
  refine row_tmp_ret (P := Try.prog) (n := w.heap.size) (k := 25) (c := uTab 25 fun _ => 0) rfl rfl rfl (Hold.new w _ _ 25 (uTab_size _ _)) Try.underlying24 rfl (by kernel_rfl) rfl ⟨rfl, (Below.refl _ w).alloc (Nat.le_refl _) _⟩
set_option maxRecDepth 100000 in
set_option maxHeartbeats 1000000 in
theorem of_yes (A : Option Addr) (c : Nat) (xs : List Nat) (hx : AllLt 256 xs) (hl : xs.length = 200) (w : World) (hw : Words .u8 w A xs) :
    Calls Try.prog 9 #[.slice A 200 c] w fun e w' => e = .returned (.tuple #[.agg (uTab 25 (laneOf fun i => xs.getD i 0)), .bool true]) ∧ Below w.heap.size w w' := by
  obtain ⟨b, o, rfl, -, -⟩ := hw.block (i := 0) (by omega)
  have hx' : ∀ i, xs.getD i 0 < 256 := fun i => by
    by_cases hi : i < xs.length
    · exact hx.at hi
    · rw [List.getD_eq_getElem?_getD, List.getElem?_eq_none (by omega)]; decide
  have hq := run_load200m (hw.below ((Below.refl w.heap.size w).alloc (Nat.le_refl _) (.cells (uTab 25 fun _ => 0) 24)) (Nat.le_refl _)) hl
  have C1 := fun U => joined_any (fun i => xs.getD i 0) hx' U
  have H0 := Lib.hid (Hold.new w (uTab 25 fun _ => 0) 24 25 (uTab_size _ _))
  have HB := Lib.hid ((Below.refl w.heap.size w).alloc (Nat.le_refl _) (.cells (uTab 25 fun _ => 0) 24))
  clear hx hw hl
  go_enter Try.func9, Try.ntmps9
  go_wp2_with fail
  refine (C1 _).mono ?_
  rintro e w1 ⟨rfl, hb1⟩
  have H1 := H0.out.call hb1
  have hB1 := HB.out.trans (hb1.mono HB.out.size)
  have q0 := H1.ok
  clear H0 HB hb1 C1 hq
  go_wp2
  refine row_tmp_ret (P := Try.prog) (n := w.heap.size) (k := 25) (c := uTab 25 (laneOf fun i => xs.getD i 0)) rfl rfl rfl (H1.set _ (uTab_size _ _)) Try.underlying24 rfl (by kernel_rfl) rfl ⟨rfl, below_setRow hB1 (Nat.le_refl _) _⟩
section
attribute [local go_sem ↓] cut_hide
set_option maxRecDepth 100000 in
set_option maxHeartbeats 1000000 in
theorem out14_any (f : Nat → Nat) (hf : ∀ i, f i < 18446744073709551616) (p n : Int) (hp : -9223372036854775808 ≤ p) (hp' : p ≤ 9223372036854775807) (hn : -9223372036854775808 ≤ n) (hn' : n ≤ 9223372036854775807) (w : World) :
    Calls Try.prog 14 #[.agg (uTab 25 f), .int .i64 p, .int .i64 n] w (Gives .u8 5 (outN f p n) w) := by
  have H0 := Lib.hid (Hold.new w (uTab 25 f) 24 25 (uTab_size _ _))
  have HB := Lib.hid ((Below.refl w.heap.size w).alloc (Nat.le_refl _) (.cells (uTab 25 f) 24))
  have hs : (w.alloc (.cells (uTab 25 f) 24)).heap.size = w.heap.size + 1 := by simp
  have HS := Lib.hid hs
  go_enter Try.func14, Try.ntmps14
  go_wp2_with fail
  refine (within_any p n hp hp' hn hn' _).mono ?_
  rintro e w1 ⟨⟨a, b, rfl, hW⟩, rfl⟩
  have HW := Lib.hid hW
  have hab := hW.le
  have hb2 := hW.top
  clear hW hs
  generalize w.alloc (.cells (uTab 25 f) 24) = w1 at *
  have q1 : (loadRow 24 (.pointer (some ⟨w.heap.size, 0, none⟩))).run Try.prog w1 = .ok (.agg (uTab 25 f)) w1 := H0.out.load Try.underlying24 rfl (by kernel_rfl)
  go_wp2_with fail
  refine (bytes14_any f hf _).mono ?_
  rintro e w2 h2
  obtain ⟨A2, c2, rfl, hlc, hcm, -, hw2, hb2'⟩ := gives_caps h2
  obtain ⟨A3, hcut, hw3⟩ := cut_any w2 A2 c2 (bytesN f) hw2 hlc hcm a b hab (by rw [bytesN_length]; exact hb2)
  rw [outN_cut HW.out] at hw3
  rw [bytesN_length] at hcut
  have hlen : Hid ((outN f p n).length = b - a) := outN_length HW.out
  have C3 := bclone_any A3 (c2 - a) (outN f p n) (Nat.le_trans (outN_le f p n) (by omega)) w2 hw3
  rw [hlen.out] at C3
  have HB2 := Lib.hid (HB.out.trans (hb2'.mono HB.out.size))
  rw [bytesN_length]
  clear h2 hw2 hw3 hb2' hlc hcm q1 H0 HB
  go_wp2_with fail
  refine C3.mono ?_
  rintro e w3 h3
  obtain ⟨A4, c4, rfl, hlc4, hcm4, hr4, hw4, hb4⟩ := gives_caps h3
  have HR := Lib.hid hr4
  have HW4 := Lib.hid hw4
  have HB4 := Lib.hid (HB2.out.trans (hb4.mono HB2.out.size))
  have HS2 := Lib.hid HB2.out.size
  rw [hlen.out]
  clear C3 hcut hr4 hw4 hb4 h3 hlc4 hcm4
  go_wp2
  go_ret
  exact ⟨A4, c4, by rw [hlen.out]; rfl, HR.out.mono HS2.out, HW4.out, HB4.out⟩
end
end Go.Proofs.Ytdjidalmnojbjaa.Ln
