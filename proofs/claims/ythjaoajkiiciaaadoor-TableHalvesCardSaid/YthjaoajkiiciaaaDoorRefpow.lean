/- Layer 5: the document's own answers: powers of numbers in digits. -/
import Derived.Test.YthjaoajkiiciaaaDoorRefmul
namespace Go.Proofs.YthjaoajkiiciaaaDoor
open Go.RowKit
set_option linter.unusedVariables false
set_option linter.unusedSimpArgs false
/-- What a call gives: a number's digits. -/
def GivesNum (X L : Nat) (w : World) (e : Ending) (w' : World) : Prop := ∃ A c zs, e = .returned (.slice A zs.length c) ∧ NumAt X zs ∧ zs.length ≤ L ∧ Words .u64 w' A zs ∧ zs.length ≤ c ∧ c ≤ maxLen ∧ Below w.heap.size w w'
set_option maxHeartbeats 2000000 in
theorem pow_any (X n : Nat) (hn : n ≤ 3) (A : Option Addr) (c : Nat) (xs : List Nat) (hx : NumAt X xs) (hxm : xs.length ≤ 20) (w : World) (hw : Words .u64 w A xs) :
    Calls Tryd.prog 22 #[.slice A xs.length c, .int .i64 (n : Int)] w (GivesNum (X ^ n) (4 + n * 21) w) := by
  have HOF := Lib.hid (numOf_any 1 (by omega))
  go_enter Tryd.func22, Tryd.ntmps22
  go_wp2_with fail
  refine (HOF.out _).mono ?_
  rintro e w1 ⟨ys, hys, hyl, A1, c1, rfl, hr1, hw1, hb1⟩
  have hc1 : ys.length ≤ c1 ∧ c1 ≤ maxLen := by
    rcases hr1.2 with ⟨e0, h0⟩ | ⟨g, cap, cur, e0, hbg, hg, hn, hm, _⟩
    · injection e0 with _ e2 e3; subst e3; rw [h0]; exact ⟨Nat.le_refl _, Nat.zero_le _⟩
    · injection e0 with _ e2 e3; subst e3; exact ⟨hn, hm⟩
  have HB1 := Lib.hid hb1
  have HY := Lib.hid hys
  clear hr1 hys hb1
  go_wp2
  go_loopw [5, 6] (fun v i wr => ∃ (k : Nat) (A' : Option Addr) (c' : Nat) (zs : List Nat), k ≤ n ∧ i = .int .i64 k ∧ v = .slice A' zs.length c' ∧ Hid (NumAt (X ^ k) zs) ∧ zs.length ≤ 4 + k * 21 ∧ Words .u64 wr A' zs ∧ zs.length ≤ c' ∧ c' ≤ maxLen ∧ Hid (Below w.heap.size w wr)) (fun _ i _ => n - (intOf i).toNat)
  case atStart => exact ⟨0, A1, c1, ys, Nat.zero_le _, rfl, rfl, by rw [Nat.pow_zero]; exact HY, by omega, hw1, hc1.1, hc1.2, HB1⟩
  case round =>
    obtain ⟨k, A2, c2, zs, hk, rfl, rfl, hz, hzl, hwz, hzc, hcm, HB⟩ := hrel
    by_cases hlt : k < n
    · have hwx := hw.below HB.out (Nat.le_refl _)
      have HM := Lib.hid (mul_any (X ^ k) X A2 c2 zs hz.out (by omega) A c xs hx (by omega) _ hwz hwx)
      clear hwx hwz
      go_wp2_with fail
      refine HM.out.mono ?_
      rintro e w3 ⟨A3, c3, us, rfl, hu, hul, hwu, huc, huc2, hb3⟩
      have HU := Lib.hid hu
      have HB3 := Lib.hid (HB.out.trans (hb3.mono HB.out.size))
      clear hu hb3
      go_wp2
      go_roundw
      case rel => exact ⟨k + 1, A3, c3, us, by omega, by go_num, rfl, by rw [Nat.pow_succ]; exact HU, by omega, hwu, huc, huc2, HB3⟩
      case measure => simp [intOf]; omega
    · obtain rfl : k = n := by omega
      go_wp2
      go_ret
      exact ⟨A2, c2, zs, rfl, hz.out, hzl, hwz, hzc, hcm, HB.out⟩
end Go.Proofs.YthjaoajkiiciaaaDoor
