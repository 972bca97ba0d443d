/- Layer 10: the laws' walks, by the contracts of the program's calls (XPad: pad_any, size_any, split_any). -/
import Derived.Test.YtpmnikcohadlmaaLawpads
import Derived.Test.YtpmnikcohadlmaaPad
namespace Go.Proofs.Ytpmnikcohadlmaa
open Go.RowKit
set_option linter.unusedVariables false
theorem padOf_walk (w : World) (hi lo : Nat) (hh : hi < 18446744073709551616) (hl : lo < 18446744073709551616) (m : Int) (h0 : -9223372036854775808 ≤ m) (h1 : m ≤ 9223372036854775807) :
    Calls Try.prog 3 #[.agg #[.int .u64 (hi : Int), .int .u64 (lo : Int)], .int .i64 m] w fun e w' => e = .returned (.bool true) ∧ Below w.heap.size w w' :=
  padOf_core pad_any size_any hi lo hh hl m h0 h1 w
theorem padWhole_walk (w : World) (hi lo : Nat) (hh : hi < 18446744073709551616) (hl : lo < 18446744073709551616) (b : Bool) :
    Calls Try.prog 4 #[.agg #[.int .u64 (hi : Int), .int .u64 (lo : Int)], .bool b] w fun e w' => e = .returned (.bool true) ∧ Below w.heap.size w w' := by
  cases b with
  | false => exact padWhole_64 pad_any size_any hi lo hh hl w
  | true => exact padWhole_128 pad_any size_any hi lo hh hl w
theorem padApart_walk (w : World) (h1 l1 : Nat) (hh1 : h1 < 18446744073709551616) (hl1 : l1 < 18446744073709551616) (h2 l2 : Nat) (hh2 : h2 < 18446744073709551616) (hl2 : l2 < 18446744073709551616) (b : Bool) :
    Calls Try.prog 6 #[.agg #[.int .u64 (h1 : Int), .int .u64 (l1 : Int)], .agg #[.int .u64 (h2 : Int), .int .u64 (l2 : Int)], .bool b] w fun e w' => e = .returned (.bool true) ∧ Below w.heap.size w w' := by
  cases b with
  | false => exact padApart_64 pad_any size_any h1 l1 h2 l2 hh1 hl1 hh2 hl2 w
  | true => exact padApart_128 pad_any size_any h1 l1 h2 l2 hh1 hl1 hh2 hl2 w
theorem padSplits_walk (w : World) (A : Option Addr) (c : Nat) (xs : List Nat) (hx : AllLt 256 xs) (hlc : xs.length ≤ c) (hcm : c ≤ maxLen) (hw : Words .u8 w A xs) (m : Int) (h0 : -9223372036854775808 ≤ m) (h1 : m ≤ 9223372036854775807) :
    Calls Try.prog 5 #[.slice A xs.length c, .int .i64 m] w fun e w' => e = .returned (.bool true) ∧ Below w.heap.size w w' := by
  by_cases hs : xs.length ≤ 600
  · by_cases hm : m < 1
    · exact padSplits_low pad_any size_any split_any A c xs hx hlc hcm hs m h0 hm w hw
    · obtain ⟨s, rfl⟩ := Int.eq_ofNat_of_zero_le (show 0 ≤ m by omega)
      exact padSplits_main pad_any size_any split_any A c xs hx hlc hcm hs s (by omega) h1 w hw
  · exact padSplits_long pad_any size_any A c xs (by omega) m w
end Go.Proofs.Ytpmnikcohadlmaa
