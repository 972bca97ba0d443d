/- Layer 4: counts as bytes. -/
import Derived.Test.YtpmnikcohadlmaaCount
import Derived.Test.YtpmnikcohadlmaaLoadlit
namespace Go.Proofs.Ytpmnikcohadlmaa
open Go.RowKit
set_option linter.unusedVariables false

set_option maxHeartbeats 1000000 in
theorem put_any (hi lo : Nat) (hh : hi < 18446744073709551616) (hl : lo < 18446744073709551616) (w : World) :
    Calls Try.prog 16 #[.agg #[.int .u64 (hi : Int), .int .u64 (lo : Int)]] w (Gives .u8 5 (putBig 8 [hi, lo]) w) := by
  have HP := Lib.hid (fun W => putB64_any (some ⟨w.heap.size + 1, 0, none⟩) 2 [hi, lo] (by intro x hx; simp at hx; omega) (by simp) W)
  go_enter Try.func16, Try.ntmps16
  go_wp2_with fail
  have hw1 := words_new (w.alloc (.cells #[.int .u64 (hi : Int), .int .u64 (lo : Int)] 24)) 22 .u64 [hi, lo] (c := #[.int .u64 (hi : Int), .int .u64 (lo : Int)]) rfl
  rw [World.size_alloc] at hw1
  refine (HP.out _ hw1).mono ?_
  rintro e w' ⟨A', c', rfl, h1, h2, h3⟩
  have h4 : Below w.heap.size w w' := below_two h3
  have h5 := h1.mono (b' := w.heap.size) (by simp; omega)
  have H1 := Lib.hid h5
  clear h1 h5 hw1 h3
  go_wp2
  go_ret
  exact ⟨A', c', rfl, H1.out, h2, h4⟩
end Go.Proofs.Ytpmnikcohadlmaa
