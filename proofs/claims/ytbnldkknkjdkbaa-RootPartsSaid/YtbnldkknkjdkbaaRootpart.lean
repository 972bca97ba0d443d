/- Layer 5: the law on roots, whole, and behind the point. -/
import Derived.Test.YtbnldkknkjdkbaaRefpart
namespace Go.Proofs.Ytbnldkknkjdkbaa
open Go.RowKit
set_option linter.unusedVariables false
set_option linter.unusedSimpArgs false
theorem whole_le {r s n p : Nat} (h1 : r ^ n ≤ p) (h2 : p < (s + 1) ^ n) : r ≤ s := by
  rcases Nat.lt_or_ge s r with h | h
  · exact absurd (Nat.pow_le_pow_left (show s + 1 ≤ r from h) n) (by omega)
  · exact h
theorem whole_uniq {r s n p : Nat} (h1 : r ^ n ≤ p) (h2 : p < (r + 1) ^ n) (h3 : s ^ n ≤ p) (h4 : p < (s + 1) ^ n) : r = s := Nat.le_antisymm (whole_le h1 h4) (whole_le h3 h2)
theorem refWhole_is (p n R : Nat) (hn2 : 2 ≤ n) (hn : n ≤ 3) (hp : p ≤ 1048576) (hR : IsRoot n p R) (w : World) :
    Calls Try.prog 12 #[.int .u64 (p : Int), .int .i64 (n : Int)] w fun e w' => e = .returned (.int .u64 (R / 18446744073709551616 : Nat)) ∧ Below w.heap.size w w' :=
  (refWhole_any p n (by omega) hn hp w).mono fun e w' ⟨⟨r, he, h1, h2⟩, hb⟩ => by
    obtain ⟨h3, h4⟩ := whole_root hR
    rw [← whole_uniq h1 h2 h3 h4]
    exact ⟨he, hb⟩
set_option maxHeartbeats 4000000 in
theorem rootParts_walk (w : World) (n : Nat) (hn : n < 4294967296) : Calls Try.prog 3 #[.int .u32 (n : Int)] w fun e w' => e = .returned (.bool true) ∧ Below w.heap.size w w' := by
  obtain ⟨p, hp⟩ : ∃ p, p = n % 1048577 := ⟨_, rfl⟩
  have hpb : p ≤ 1048576 := by omega
  have e1 : (n : Int) % 1048577 = (p : Int) := by omega
  clear hp
  obtain ⟨R, hR⟩ := root_is (p := p) (n := 2) (by omega) (by omega) hpb
  obtain ⟨S, hS⟩ := root_is (p := p) (n := 3) (by omega) (by omega) hpb
  have HW := Lib.hid (fun W => whole_is p R S hpb hR hS W)
  have HSQ := Lib.hid (fun W => square_is p R hpb hR W)
  have HCU := Lib.hid (fun W => cube_is p S hpb hS W)
  have HP2 := Lib.hid (fun W => refPart_any p 2 R (by omega) (by omega) hpb hR W)
  have HP3 := Lib.hid (fun W => refPart_any p 3 S (by omega) (by omega) hpb hS W)
  have HV2 := Lib.hid (fun W => refWhole_is p 2 R (by omega) (by omega) hpb hR W)
  have HV3 := Lib.hid (fun W => refWhole_is p 3 S (by omega) (by omega) hpb hS W)
  have k2 : ((2 : Nat) : Int) = 2 := rfl
  have k3 : ((3 : Nat) : Int) = 3 := rfl
  rw [k2] at HP2 HV2
  rw [k3] at HP3 HV3
  clear hR hS k2 k3
  generalize R / 18446744073709551616 = a at *
  generalize S / 18446744073709551616 = b at *
  generalize dgQ R 0 = x at *
  generalize dgQ S 0 = y at *
  go_enter Try.func3, Try.ntmps3
  go_wp2_with fail
  refine (wakesR_any _).mono ?_
  rintro e w1 ⟨rfl, hb1⟩
  have B1 := Lib.hid hb1
  clear hb1
  go_wp2_with fail
  refine (HW.out _).mono ?_
  rintro e w2 ⟨rfl, hb2⟩
  have B2 := Lib.hid (B1.out.trans (hb2.mono B1.out.size))
  clear hb2
  go_wp2_with fail
  refine (HSQ.out _).mono ?_
  rintro e w3 ⟨rfl, hb3⟩
  have B3 := Lib.hid (B2.out.trans (hb3.mono B2.out.size))
  clear hb3
  go_wp2_with fail
  refine (HP2.out _).mono ?_
  rintro e w4 ⟨rfl, hb4⟩
  have B4 := Lib.hid (B3.out.trans (hb4.mono B3.out.size))
  clear hb4
  go_wp2_with fail
  refine (HCU.out _).mono ?_
  rintro e w5 ⟨rfl, hb5⟩
  have B5 := Lib.hid (B4.out.trans (hb5.mono B4.out.size))
  clear hb5
  go_wp2_with fail
  refine (HP3.out _).mono ?_
  rintro e w6 ⟨rfl, hb6⟩
  have B6 := Lib.hid (B5.out.trans (hb6.mono B5.out.size))
  clear hb6
  go_wp2_with fail
  refine (HV2.out _).mono ?_
  rintro e w7 ⟨rfl, hb7⟩
  have B7 := Lib.hid (B6.out.trans (hb7.mono B6.out.size))
  clear hb7
  go_wp2_with fail
  refine (HV3.out _).mono ?_
  rintro e w8 ⟨rfl, hb8⟩
  have B8 := Lib.hid (B7.out.trans (hb8.mono B7.out.size))
  clear hb8
  go_wp2
  go_ret
  exact ⟨rfl, B8.out⟩
end Go.Proofs.Ytbnldkknkjdkbaa
