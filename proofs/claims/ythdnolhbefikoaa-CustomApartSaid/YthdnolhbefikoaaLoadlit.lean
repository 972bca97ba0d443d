/- Layer 3: load: PutLittle64, and the calls' outer faces. -/
import Derived.Test.YthdnolhbefikoaaLoadput
import Derived.Test.YthdnolhbefikoaaLoadit
import Derived.Test.YthdnolhbefikoaaRev
namespace Go.Proofs.Ythdnolhbefikoaa
open Go.RowKit Go.Shelf Go.Sort
set_option linter.unusedVariables false
attribute [local go_sem] Oper.semAt_some

set_option maxHeartbeats 400000 in
theorem putB64_any (A : Option Addr) (c : Nat) (xs : List Nat) (hx : AllLt 18446744073709551616 xs) (hb : xs.length * 8 ≤ 140737488351232) (w : World) (hw : Words .u64 w A xs) :
    Calls Try.prog 37 #[.slice A xs.length c] w (Gives .u8 5 (putBig 8 xs) w) := by
  go_enter Try.func37, Try.ntmps37
  go_wp2_with fail
  refine (put64_any A c xs hx hb _ hw).mono ?_
  rintro e w' ⟨A', c', rfl, h1, h2, h3⟩
  have H1 := Lib.hid h1
  clear h1
  go_wp2
  go_ret
  exact ⟨A', c', rfl, H1.out, h2, h3⟩
end Go.Proofs.Ythdnolhbefikoaa
