/- Layer 3: the document's own answers: what each call tells. -/
import Derived.Test.YtknogmianfnfoaaDoorRows
import Derived.Test.YtknogmianfnfoaaDoorBytes
namespace Go.Proofs.YtknogmianfnfoaaDoor
open Go.RowKit
set_option maxRecDepth 20000
set_option linter.unusedVariables false

def sameB (xs ys : List Nat) : Bool := decide (xs = ys)
theorem sameB_self (xs : List Nat) : sameB xs xs = true := decide_eq_true rfl
/-- A call that tells v and leaves the world as it was, but for the count of draws. -/
def Quiet (w : World) (v : Value) (e : Ending) (w' : World) : Prop := e = .returned v ∧ ∃ m, w' = w.drewN m
theorem drewN_drewN (w : World) (a b : Nat) : (w.drewN a).drewN b = w.drewN (a + b) := by
  simp [World.drewN, Nat.add_assoc]
theorem u8_info2 : (Tryd.prog.info? 5).map (fun i => (i.zero, i.size, i.bytes)) = some (some (.int .u8 0), 1, 1) := by kernel_rfl
theorem u64_info2 : (Tryd.prog.info? 27).map (fun i => (i.zero, i.size, i.bytes)) = some (some (.int .u64 0), 1, 8) := by kernel_rfl
theorem be_step_lt {xs : List Nat} (h : AllLt 256 xs) {k : Nat} (hk : k < xs.length) (h8 : xs.length ≤ 8) : be (xs.take k) * 256 + xs.getD k 0 < 18446744073709551616 := by
  rw [← be_take xs k hk]
  exact Nat.lt_of_lt_of_le (be_take_lt xs h (k + 1) hk) (Nat.pow_le_pow_right (n := 256) (by omega) (by omega : k + 1 ≤ 8))
end Go.Proofs.YtknogmianfnfoaaDoor
