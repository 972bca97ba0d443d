/- Layer 3: load: PutLittle64, and the calls' outer faces. -/
import Derived.Test.YtlfpkbiphdcpnaaLoadput
import Derived.Test.YtlfpkbiphdcpnaaLoadit
import Derived.Test.YtlfpkbiphdcpnaaRev
namespace Go.Proofs.Ytlfpkbiphdcpnaa
open Go.RowKit Go.Shelf Go.Sort
set_option linter.unusedVariables false
attribute [local go_sem] Oper.semAt_some

set_option maxHeartbeats 400000 in
theorem big64_any (A : Option Addr) (c : Nat) (xs : List Nat) (hx : AllLt 256 xs) (hlc : xs.length ≤ c) (hcm : c ≤ maxLen) (hb : xs.length ≤ 140737488351232) (w : World) (hw : Words .u8 w A xs) :
    Calls Try.prog 35 #[.slice A xs.length c] w (Gives .u64 22 (big64 xs) w) := by
  go_enter Try.func35, Try.ntmps35
  go_wp2_with fail
  refine (words64_any A c xs hx hlc hcm hb _ hw).mono ?_
  rintro e w' ⟨A', c', rfl, h1, h2, h3⟩
  have H1 := Lib.hid h1
  clear h1
  go_wp2
  go_ret
  exact ⟨A', c', rfl, H1.out, h2, h3⟩
set_option maxHeartbeats 400000 in
theorem putB64_any (A : Option Addr) (c : Nat) (xs : List Nat) (hx : AllLt 18446744073709551616 xs) (hb : xs.length * 8 ≤ 140737488351232) (w : World) (hw : Words .u64 w A xs) :
    Calls Try.prog 34 #[.slice A xs.length c] w (Gives .u8 5 (putBig 8 xs) w) := by
  go_enter Try.func34, Try.ntmps34
  go_wp2_with fail
  refine (put64_any A c xs hx hb _ hw).mono ?_
  rintro e w' ⟨A', c', rfl, h1, h2, h3⟩
  have H1 := Lib.hid h1
  clear h1
  go_wp2
  go_ret
  exact ⟨A', c', rfl, H1.out, h2, h3⟩
end Go.Proofs.Ytlfpkbiphdcpnaa
