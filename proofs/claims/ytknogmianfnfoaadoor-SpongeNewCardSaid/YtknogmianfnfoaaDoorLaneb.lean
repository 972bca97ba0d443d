/- Layer 14: the program: bytes as a state; bytes of a state. -/
import Derived.Test.YtknogmianfnfoaaDoorLanea
import Derived.Test.YtknogmianfnfoaaDoorClone
import Derived.Test.YtknogmianfnfoaaDoorCutb
namespace Go.Proofs.YtknogmianfnfoaaDoor.Ln
open Go.RowKit Rw L64
set_option linter.unusedVariables false
set_option linter.unusedSimpArgs false
section
attribute [local go_sem ↓] cut_hide
set_option maxRecDepth 100000 in
set_option maxHeartbeats 1000000 in
theorem out14_any (f : Nat → Nat) (hf : ∀ i, f i < 18446744073709551616) (p n : Int) (hp : -9223372036854775808 ≤ p) (hp' : p ≤ 9223372036854775807) (hn : -9223372036854775808 ≤ n) (hn' : n ≤ 9223372036854775807) (w : World) :
    Calls Tryd.prog 22 #[.agg (uTab 25 f), .int .i64 p, .int .i64 n] w (Gives .u8 5 (outN f p n) w) := by
  have H0 := Lib.hid (Hold.new w (uTab 25 f) 29 25 (uTab_size _ _))
  have HB := Lib.hid ((Below.refl w.heap.size w).alloc (Nat.le_refl _) (.cells (uTab 25 f) 29))
  have hs : (w.alloc (.cells (uTab 25 f) 29)).heap.size = w.heap.size + 1 := by simp
  have HS := Lib.hid hs
  go_enter Tryd.func22, Tryd.ntmps22
  go_wp2_with fail
  refine (within_any p n hp hp' hn hn' _).mono ?_
  rintro e w1 ⟨⟨a, b, rfl, hW⟩, rfl⟩
  have HW := Lib.hid hW
  have hab := hW.le
  have hb2 := hW.top
  clear hW hs
  generalize w.alloc (.cells (uTab 25 f) 29) = w1 at *
  have q1 : (loadRow 29 (.pointer (some ⟨w.heap.size, 0, none⟩))).run Tryd.prog w1 = .ok (.agg (uTab 25 f)) w1 := H0.out.load Tryd.underlying29 rfl (by kernel_rfl)
  go_wp2_with fail
  refine (bytes14_any f hf _).mono ?_
  rintro e w2 h2
  obtain ⟨A2, c2, rfl, hlc, hcm, -, hw2, hb2'⟩ := gives_caps h2
  obtain ⟨A3, hcut, hw3⟩ := cut_any w2 A2 c2 (bytesN f) hw2 hlc hcm a b hab (by rw [bytesN_length]; exact hb2)
  rw [outN_cut HW.out] at hw3
  rw [bytesN_length] at hcut
  have hlen : Hid ((outN f p n).length = b - a) := outN_length HW.out
  have C3 := bclone_any A3 (c2 - a) (outN f p n) (Nat.le_trans (outN_le f p n) (by omega)) w2 hw3
  rw [hlen.out] at C3
  have HB2 := Lib.hid (HB.out.trans (hb2'.mono HB.out.size))
  rw [bytesN_length]
  clear h2 hw2 hw3 hb2' hlc hcm q1 H0 HB
  go_wp2_with fail
  refine C3.mono ?_
  rintro e w3 h3
  obtain ⟨A4, c4, rfl, hlc4, hcm4, hr4, hw4, hb4⟩ := gives_caps h3
  have HR := Lib.hid hr4
  have HW4 := Lib.hid hw4
  have HB4 := Lib.hid (HB2.out.trans (hb4.mono HB2.out.size))
  have HS2 := Lib.hid HB2.out.size
  rw [hlen.out]
  clear C3 hcut hr4 hw4 hb4 h3 hlc4 hcm4
  go_wp2
  go_ret
  exact ⟨A4, c4, by rw [hlen.out]; rfl, HR.out.mono HS2.out, HW4.out, HB4.out⟩
end
end Go.Proofs.YtknogmianfnfoaaDoor.Ln
