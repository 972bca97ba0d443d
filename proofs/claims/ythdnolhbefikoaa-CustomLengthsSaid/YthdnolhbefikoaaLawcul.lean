/- Layer 17's statements: the lengths of prefixes. -/
import Derived.Test.YthdnolhbefikoaaLawcus
import Derived.Test.YthdnolhbefikoaaInve
namespace Go.Proofs.Ythdnolhbefikoaa.Cd
open Go.RowKit Go.MapKept Rw
set_option linter.unusedVariables false
set_option linter.unusedSimpArgs false
theorem nb_two {x : Nat} (h : x < 65536) : nb x ≤ 2 := by unfold nb; repeat' split; all_goals omega
theorem nb_one {x : Nat} (h : x < 256) : nb x = 1 := by unfold nb; rw [if_pos h]
theorem pxN_least (r : Nat) (xs ys : List Nat) (h1 : 1 ≤ r) (h2 : r < 256) (hx : xs.length ≤ 1000) (hy : ys.length ≤ 1000) :
    6 + xs.length + ys.length ≤ (pxN r xs ys).length ∧ (pxN r xs ys).length < 8 + xs.length + ys.length + r ∧ (pxN r xs ys).length % r = 0 := by
  have a1 := nb_two (x := 8 * xs.length) (by omega)
  have a2 := nb_two (x := 8 * ys.length) (by omega)
  have a3 := nb_pos (8 * xs.length)
  have a4 := nb_pos (8 * ys.length)
  refine ⟨?_, ?_, padN_mod h1 _⟩
  · unfold pxN; rw [padN_length, nb_one h2, List.length_append, textN_length, textN_length]; omega
  · have := padK_lt (w := r) (n := nb r + 1 + (textN xs ++ textN ys).length) h1
    rw [nb_one h2] at this
    unfold pxN; rw [padN_length, nb_one h2]
    rw [List.length_append, textN_length, textN_length] at this ⊢
    omega
set_option maxRecDepth 20000 in
set_option maxHeartbeats 2000000 in
theorem lengths_core (w : World) (b : Bool) (R : Nat) (hR : (b = false ∧ R = 168) ∨ (b = true ∧ R = 136)) (A1 : Option Addr) (n1 c1 : Nat) (A2 : Option Addr) (n2 c2 L : Nat) (h1 : n1 ≤ 1000) (h2 : n2 ≤ 1000)
    (hge : 6 + n1 + n2 ≤ L) (hlt : L < 8 + n1 + n2 + R) (hmod : L % R = 0)
    (HK : Hid (∀ W, Calls Try.prog 6 #[] W fun e w' => e = .returned (.bool true) ∧ Below W.heap.size W w'))
    (HE : Hid (∀ W, Calls Try.prog 10 #[.agg #[.slice A1 n1 c1, .slice A2 n2 c2]] W fun e w' => e = .returned (.bool false) ∧ Below W.heap.size W w'))
    (HP : Hid (∀ W, Below w.heap.size w W → Calls Try.prog 8 #[.int .i64 (R : Nat), .agg #[.slice A1 n1 c1, .slice A2 n2 c2]] W fun e w' => ∃ A c, e = .returned (.tuple #[.slice A L c, .bool true]) ∧ Below W.heap.size W w')) :
    Calls Try.prog 5 #[.bool b, .agg #[.slice A1 n1 c1, .slice A2 n2 c2]] w fun e w' => e = .returned (.bool true) ∧ Below w.heap.size w w' := by
  have hA : NmAt (w.alloc (.cells #[.slice A1 n1 c1, .slice A2 n2 c2] 24)) w.heap.size (.slice A1 n1 c1) (.slice A2 n2 c2) := ⟨Hold.new w _ _ 2 rfl⟩
  have HA := Lib.hid hA
  have HB := Lib.hid ((Below.refl w.heap.size w).alloc (Nat.le_refl _) (.cells #[.slice A1 n1 c1, .slice A2 n2 c2] 24))
  have d1 : decide ((1000 : Int) < (n1 : Int)) = false := decide_eq_false (by omega)
  have d2 : decide ((1000 : Int) < (n2 : Int)) = false := decide_eq_false (by omega)
  have d3 : ((L : Int) % (R : Int) == 0) = true := by rw [beq_iff_eq]; omega
  have d4 : decide (2 + (n1 : Int) + 2 + (n2 : Int) + 2 ≤ (L : Int)) = true := decide_eq_true (by omega)
  have d5 : decide ((L : Int) < 2 + (n1 : Int) + 2 + (n2 : Int) + 2 + 2 + (R : Int)) = true := decide_eq_true (by omega)
  clear hA
  have hL : L ≤ 100000 := by omega
  clear hge hlt hmod
  rcases hR with ⟨rfl, rfl⟩ | ⟨rfl, rfl⟩
  all_goals
    first
      | rw [show ((168 : Nat) : Int) = 168 from rfl] at d3 d5
      | rw [show ((136 : Nat) : Int) = 136 from rfl] at d3 d5
    go_enter Try.func5, Try.ntmps5
    go_wp2_with (first
      | (go_at_call 6; refine (HK.out _).mono ?_; rintro e u1 ⟨rfl, hb1⟩; replace HA := Lib.hid (HA.out.call hb1); have q1 := HA.out.c0; have q2 := HA.out.c1; replace HB := Lib.hid (HB.out.trans (hb1.mono HB.out.size)); clear hb1)
      | (go_at_call 10; refine (HE.out _).mono ?_; rintro e u2 ⟨rfl, hb2⟩; replace HA := Lib.hid (HA.out.call hb2); replace q1 := HA.out.c0; replace q2 := HA.out.c1; replace HB := Lib.hid (HB.out.trans (hb2.mono HB.out.size)); clear hb2)
      | (go_at_call 8; refine (HP.out _ HB.out).mono ?_; rintro e u3 ⟨AP, cP, rfl, hb3⟩; replace HA := Lib.hid (HA.out.call hb3); replace q1 := HA.out.c0; replace q2 := HA.out.c1; replace HB := Lib.hid (HB.out.trans (hb3.mono HB.out.size)); clear hb3))
    go_ret
    exact ⟨rfl, HB.out⟩
set_option maxRecDepth 20000 in
set_option maxHeartbeats 2000000 in
theorem customLengths_walk (w : World) (b : Bool) (A1 : Option Addr) (c1 : Nat) (xs1 : List Nat) (hx1 : AllLt 256 xs1) (hm1 : xs1.length ≤ maxLen) (hw1 : Words .u8 w A1 xs1)
    (A2 : Option Addr) (c2 : Nat) (xs2 : List Nat) (hx2 : AllLt 256 xs2) (hm2 : xs2.length ≤ maxLen) (hw2 : Words .u8 w A2 xs2) :
    Calls Try.prog 5 #[.bool b, .agg #[.slice A1 xs1.length c1, .slice A2 xs2.length c2]] w fun e w' => e = .returned (.bool true) ∧ Below w.heap.size w w' := by
  have HK := Lib.hid (fun W => wakes17_any W)
  by_cases hs : xs1.length ≤ 1000 ∧ xs2.length ≤ 1000 ∧ nmE xs1 xs2 = false
  · obtain ⟨h1, h2, h3⟩ := hs
    have HE := Lib.hid (fun W => refEmpty_any A1 xs1.length c1 A2 xs2.length c2 (by omega) (by omega) W)
    rw [← nmE_len, h3] at HE
    have hN : NmOk w A1 xs1 A2 xs2 := ⟨hx1, hx2, hw1, hw2⟩
    have hRt : nmR xs1 xs2 = true := by unfold nmR; simp [h1, h2]
    obtain ⟨R, hR, hR1, hR2, hRB⟩ : ∃ R : Nat, ((b = false ∧ R = 168) ∨ (b = true ∧ R = 136)) ∧ 1 ≤ R ∧ R < 256 ∧ rateB (R : Int) = true := by
      cases b
      · exact ⟨168, .inl ⟨rfl, rfl⟩, by omega, by omega, by decide⟩
      · exact ⟨136, .inr ⟨rfl, rfl⟩, by omega, by omega, by decide⟩
    obtain ⟨p1, p2, p3⟩ := pxN_least R xs1 xs2 hR1 hR2 h1 h2
    exact lengths_core w b R hR A1 xs1.length c1 A2 xs2.length c2 (pxN R xs1 xs2).length h1 h2 p1 p2 p3 HK HE
      (fun W hb => (prefix_yes R hR1 (by omega) hRB A1 c1 xs1 A2 c2 xs2 W (hN.call hb) hRt h3).mono fun e w' ⟨A, c, he, _, _, hb'⟩ => ⟨A, c, he, hb'⟩)
  · have HA := Lib.hid (NmAt.mk (Hold.new w #[.slice A1 xs1.length c1, .slice A2 xs2.length c2] 24 2 rfl))
    have HB := Lib.hid ((Below.refl w.heap.size w).alloc (Nat.le_refl _) (.cells #[.slice A1 xs1.length c1, .slice A2 xs2.length c2] 24))
    have HE : Hid (xs1.length ≤ 1000 → xs2.length ≤ 1000 → ∀ W, Calls Try.prog 10 #[.agg #[.slice A1 xs1.length c1, .slice A2 xs2.length c2]] W fun e w' => e = .returned (.bool true) ∧ Below W.heap.size W w') := fun h1 h2 W => by
      have h3 : nmE xs1 xs2 = true := by cases h : nmE xs1 xs2 with | true => rfl | false => exact absurd ⟨h1, h2, h⟩ hs
      have := refEmpty_any A1 xs1.length c1 A2 xs2.length c2 (by omega) (by omega) W
      rw [← nmE_len, h3] at this
      exact this
    have hd : decide ((1000 : Int) < (xs1.length : Int)) = true ∨ (decide ((1000 : Int) < (xs1.length : Int)) = false ∧ decide ((1000 : Int) < (xs2.length : Int)) = true) ∨ (decide ((1000 : Int) < (xs1.length : Int)) = false ∧ decide ((1000 : Int) < (xs2.length : Int)) = false ∧ Hid (xs1.length ≤ 1000 ∧ xs2.length ≤ 1000)) := by
      by_cases a : xs1.length ≤ 1000
      · by_cases a2 : xs2.length ≤ 1000
        · exact .inr (.inr ⟨decide_eq_false (by omega), decide_eq_false (by omega), a, a2⟩)
        · exact .inr (.inl ⟨decide_eq_false (by omega), decide_eq_true (by omega)⟩)
      · exact .inl (decide_eq_true (by omega))
    clear hs hx1 hm1 hw1 hx2 hm2 hw2
    generalize xs1.length = n1 at *
    generalize xs2.length = n2 at *
    rcases hd with hd | ⟨hd, hd2⟩ | ⟨hd, hd2, hd3⟩
    all_goals
      go_enter Try.func5, Try.ntmps5
      go_wp2_with (first
        | (go_at_call 6; refine (HK.out _).mono ?_; rintro e u1 ⟨rfl, hb1⟩; replace HA := Lib.hid (HA.out.call hb1); have q1 := HA.out.c0; have q2 := HA.out.c1; replace HB := Lib.hid (HB.out.trans (hb1.mono HB.out.size)); clear hb1)
        | (go_at_call 10; refine (HE.out hd3.out.1 hd3.out.2 _).mono ?_; rintro e u2 ⟨rfl, hb2⟩; replace HB := Lib.hid (HB.out.trans (hb2.mono HB.out.size)); clear hb2))
      go_ret
      exact ⟨rfl, HB.out⟩
end Go.Proofs.Ythdnolhbefikoaa.Cd
