/- Layer 3: the document's own answers: what each call tells. -/
import Derived.Test.YthjaoajkiiciaaaDoorRows
import Derived.Test.YthjaoajkiiciaaaDoorBytes
namespace Go.Proofs.YthjaoajkiiciaaaDoor
open Go.RowKit
set_option linter.unusedVariables false

def sameB (xs ys : List Nat) : Bool := decide (xs = ys)
theorem sameB_self (xs : List Nat) : sameB xs xs = true := decide_eq_true rfl
/-- A call that tells v and leaves the world as it was, but for the count of draws. -/
def Quiet (w : World) (v : Value) (e : Ending) (w' : World) : Prop := e = .returned v ∧ ∃ m, w' = w.drewN m
theorem drewN_drewN (w : World) (a b : Nat) : (w.drewN a).drewN b = w.drewN (a + b) := by
  simp [World.drewN, Nat.add_assoc]
set_option maxHeartbeats 2000000 in
theorem refWords_any (A : Option Addr) (c : Nat) (xs : List Nat) (hx : AllLt 18446744073709551616 xs) (hxm : xs.length ≤ maxLen) (B : Option Addr) (d : Nat) (ys : List Nat) (hy : AllLt 18446744073709551616 ys) (hym : ys.length ≤ maxLen) (w : World) (hw : Words .u64 w A xs) (hw' : Words .u64 w B ys) :
    Calls Tryd.prog 14 #[.slice A xs.length c, .slice B ys.length d] w (Quiet w (.bool (sameB xs ys))) := by
  unfold maxLen at hxm hym
  by_cases hl : xs.length = ys.length
  · have hbne : ((xs.length : Int) != (ys.length : Int)) = false := by rw [hl]; simp
    have HL := Lib.hid hl
    have hl1 : xs.length ≤ ys.length := by omega
    have hl2 : ys.length ≤ xs.length := by omega
    clear hl
    go_enter Tryd.func14, Tryd.ntmps14
    go_wp2
    go_loopw [5] (fun i wr => ∃ k m : Nat, k ≤ xs.length ∧ i = .int .i64 k ∧ Hid (∀ j, j < k → xs.getD j 0 = ys.getD j 0) ∧ wr = w.drewN m) (fun i _ => xs.length - (intOf i).toNat)
    case atStart => exact ⟨0, 0, Nat.zero_le _, rfl, fun j hj => by omega, rfl⟩
    case round =>
      obtain ⟨k, m, hk, rfl, he, rfl⟩ := hrel
      by_cases hlt : k < xs.length
      · have hlt2 : k < ys.length := by omega
        obtain ⟨g, o, rfl, hgl, hc⟩ := hw.block hlt
        obtain ⟨g', o', rfl, hgl', hc'⟩ := hw'.block hlt2
        have hg1 := hx.at hlt
        have hg2 := hy.at hlt2
        by_cases hxy : xs.getD k 0 = ys.getD k 0
        · have hb2 : (((xs.getD k 0 : Nat) : Int) != ((ys.getD k 0 : Nat) : Int)) = false := by rw [hxy]; simp
          have HN : Hid (∀ j, j < k + 1 → xs.getD j 0 = ys.getD j 0) := fun j hj => by
            rcases Nat.lt_or_ge j k with h | h
            · exact he.out j h
            · rw [show j = k by omega]; exact hxy
          generalize hX : xs.getD k 0 = x at *
          generalize hY : ys.getD k 0 = y at *
          clear hX hY hx hy hw hw' hxy
          go_wp2
          go_quiet (fail)
          go_wp2
          go_roundw
          case rel => exact ⟨k + 1, m + nq, by omega, by go_num, HN, by first | rfl | rw [drewN_drewN]⟩
          case measure => simp [intOf]; omega
        · have hb2 : (((xs.getD k 0 : Nat) : Int) != ((ys.getD k 0 : Nat) : Int)) = true := by simp only [bne_iff_ne, ne_eq]; omega
          have HS : Hid (sameB xs ys = false) := decide_eq_false fun e => hxy (by rw [e])
          generalize hX : xs.getD k 0 = x at *
          generalize hY : ys.getD k 0 = y at *
          clear hX hY hx hy hw hw' hxy
          go_wp2
          go_quiet (fail)
          go_wp2
          go_ret
          exact ⟨by rw [HS.out]; rfl, m + nq, by first | rfl | rw [drewN_drewN]⟩
      · obtain rfl : k = xs.length := by omega
        have HS : Hid (sameB xs ys = true) := decide_eq_true (ext_getD HL.out he.out)
        go_wp2
        go_ret
        exact ⟨by rw [HS.out]; rfl, m, rfl⟩
  · have hbne : ((xs.length : Int) != (ys.length : Int)) = true := by simp only [bne_iff_ne, ne_eq]; omega
    have HS : Hid (sameB xs ys = false) := decide_eq_false fun e => hl (by rw [e])
    clear hl
    go_enter Tryd.func14, Tryd.ntmps14
    go_wp2
    go_ret
    exact ⟨by rw [HS.out]; rfl, 0, rfl⟩
theorem u8_info2 : (Tryd.prog.info? 5).map (fun i => (i.zero, i.size, i.bytes)) = some (some (.int .u8 0), 1, 1) := by kernel_rfl
theorem u64_info2 : (Tryd.prog.info? 23).map (fun i => (i.zero, i.size, i.bytes)) = some (some (.int .u64 0), 1, 8) := by kernel_rfl
end Go.Proofs.YthjaoajkiiciaaaDoor
