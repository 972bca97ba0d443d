/- Layer 5: the document's own answers: whole roots. -/
import Derived.Test.YthjaoajkiiciaaaDoorRefpow
namespace Go.Proofs.YthjaoajkiiciaaaDoor
open Go.RowKit
set_option linter.unusedVariables false
set_option linter.unusedSimpArgs false
theorem Gives.num {X L : Nat} {t : TypeId} {ys : List Nat} {w w' : World} {e : Ending} (h : Gives .u64 t ys w e w') (hn : NumAt X ys) (hl : ys.length ≤ L) : GivesNum X L w e w' := by
  obtain ⟨A, c, rfl, hr, hw, hb⟩ := h
  refine ⟨A, c, ys, rfl, hn, hl, hw, ?_, ?_, hb⟩
  · rcases hr.2 with ⟨e0, h0⟩ | ⟨g, cap, cur, e0, hbg, hg, hn, hm, _⟩
    · rw [h0]; exact Nat.zero_le _
    · injection e0 with _ e2 e3; subst e3; exact hn
  · rcases hr.2 with ⟨e0, h0⟩ | ⟨g, cap, cur, e0, hbg, hg, hn, hm, _⟩
    · injection e0 with _ e2 e3; subst e3; exact Nat.zero_le _
    · injection e0 with _ e2 e3; subst e3; exact hm
theorem ofNum_any (x : Nat) (hx : x < 18446744073709551616) (w : World) : Calls Tryd.prog 19 #[.int .u64 (x : Int)] w (GivesNum x 4 w) :=
  (numOf_any x hx w).mono fun _ _ ⟨_, h1, h2, h3⟩ => h3.num h1 h2
theorem le_powN {k n : Nat} (hn : 1 ≤ n) : k ≤ k ^ n := by
  rcases Nat.eq_zero_or_pos k with rfl | h
  · exact Nat.zero_le _
  · calc k = k ^ 1 := (Nat.pow_one k).symm
      _ ≤ k ^ n := Nat.pow_le_pow_right h hn
set_option maxHeartbeats 2000000 in
theorem refWhole_any (p n : Nat) (hn1 : 1 ≤ n) (hn : n ≤ 3) (hp : p ≤ 1048576) (w : World) :
    Calls Tryd.prog 20 #[.int .u64 (p : Int), .int .i64 (n : Int)] w fun e w' => (∃ r : Nat, e = .returned (.int .u64 (r : Int)) ∧ r ^ n ≤ p ∧ p < (r + 1) ^ n) ∧ Below w.heap.size w w' := by
  go_enter Tryd.func20, Tryd.ntmps20
  go_wp2
  go_loopw [5] (fun x wr => ∃ k : Nat, x = .int .u64 (k : Int) ∧ Hid (k ^ n ≤ p) ∧ k ≤ p ∧ Hid (Below w.heap.size w wr)) (fun x _ => p + 1 - (intOf x).toNat)
  case atStart => exact ⟨0, rfl, by unfold Hid; rw [Nat.zero_pow (by omega)]; omega, Nat.zero_le _, Below.refl _ _⟩
  case round =>
    obtain ⟨k, rfl, hk, hkp, HB⟩ := hrel
    have HO1 := Lib.hid (ofNum_any (k + 1) (by omega))
    have HO2 := Lib.hid (ofNum_any p (by omega))
    have e1 : ((k + 1 : Nat) : Int) = (k : Int) + 1 := by omega
    rw [e1] at HO1
    clear e1
    go_wp2_with fail
    refine (HO1.out _).mono ?_
    rintro e w1 ⟨A1, c1, xs, rfl, hx, hxl, hw1, hxc, hxm, hb1⟩
    have HP := Lib.hid (pow_any (k + 1) n hn A1 c1 xs hx (by omega) w1 hw1)
    have HB1 := Lib.hid (HB.out.trans (hb1.mono HB.out.size))
    clear hx hw1 hb1
    go_wp2_with fail
    refine HP.out.mono ?_
    rintro e w2 ⟨A2, c2, ys, rfl, hy, hyl, hw2, hyc, hym, hb2⟩
    have HB2 := Lib.hid (HB1.out.trans (hb2.mono HB1.out.size))
    have HY := Lib.hid hy
    clear hy hb2
    go_wp2_with fail
    refine (HO2.out _).mono ?_
    rintro e w3 ⟨A3, c3, zs, rfl, hz, hzl, hw3, hzc, hzm, hb3⟩
    have HB3 := Lib.hid (HB2.out.trans (hb3.mono HB2.out.size))
    have HM := Lib.hid (more_any ((k + 1) ^ n) p A2 c2 ys HY.out (by unfold maxLen; omega) A3 c3 zs hz (by unfold maxLen; omega) w3 (hw2.below hb3 (Nat.le_refl _)) hw3)
    clear hz hb3 hw2 hw3
    by_cases hm : p < (k + 1) ^ n
    · have e2 : moreB ((k + 1) ^ n) p = true := decide_eq_true hm
      rw [e2] at HM
      have HE := Lib.hid hm
      clear hm e2
      go_wp2_with fail
      refine HM.out.mono ?_
      rintro e w4 ⟨rfl, m, rfl⟩
      go_wp2
      go_ret
      exact ⟨⟨k, rfl, hk.out, HE.out⟩, HB3.out.drewN m⟩
    · have e2 : moreB ((k + 1) ^ n) p = false := decide_eq_false hm
      rw [e2] at HM
      have HE : Hid ((k + 1) ^ n ≤ p) := Nat.le_of_not_lt hm
      have hkp1 : k + 1 ≤ p := Nat.le_trans (le_powN hn1) HE.out
      clear hm e2
      go_wp2_with fail
      refine HM.out.mono ?_
      rintro e w4 ⟨rfl, m, rfl⟩
      go_wp2
      go_roundw
      case rel => exact ⟨k + 1, by go_num, HE, hkp1, HB3.out.drewN m⟩
      case measure => simp [intOf]; omega
end Go.Proofs.YthjaoajkiiciaaaDoor
