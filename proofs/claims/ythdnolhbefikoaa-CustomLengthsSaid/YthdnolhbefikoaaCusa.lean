/- Layer 17: texts held against each other. -/
import Derived.Test.YthdnolhbefikoaaCust
import Derived.Test.YthdnolhbefikoaaHold
namespace Go.Proofs.Ythdnolhbefikoaa.Cd
open Go.RowKit Go.MapKept Rw
set_option linter.unusedVariables false
set_option linter.unusedSimpArgs false
/-- A name that lies in a block: its cells. -/
structure NmAt (W : World) (n : Nat) (s1 s2 : Value) : Prop where
  hold : Hold W n 2 #[s1, s2]
theorem NmAt.call {W W' : World} {n : Nat} {s1 s2 : Value} (h : NmAt W n s1 s2) (hb : Below W.heap.size W W') : NmAt W' n s1 s2 := ⟨h.hold.call hb⟩
theorem NmAt.c0 {W : World} {n : Nat} {s1 s2 : Value} (h : NmAt W n s1 s2) : W.cell? ⟨n, 0, none⟩ = some s1 := h.hold.cell rfl
theorem NmAt.c1 {W : World} {n : Nat} {s1 s2 : Value} (h : NmAt W n s1 s2) : W.cell? ⟨n, 1, none⟩ = some s2 := h.hold.cell rfl
set_option maxRecDepth 20000 in
set_option maxHeartbeats 2000000 in
theorem alike2_any (ga gb : Nat) (A1 : Option Addr) (n1 c1 : Nat) (A2 : Option Addr) (n2 c2 : Nat) (B1 : Option Addr) (m1 d1 : Nat) (B2 : Option Addr) (m2 d2 : Nat) (b : Bool) (w : World)
    (hA : NmAt w ga (.slice A1 n1 c1) (.slice A2 n2 c2)) (hB : NmAt w gb (.slice B1 m1 d1) (.slice B2 m2 d2))
    (hE : ∀ W, Below w.heap.size w W → Calls Try.prog 25 #[.slice A1 n1 c1, .slice B1 m1 d1] W fun e w' => e = .returned (.bool b) ∧ W = w') :
    Calls Try.prog 24 #[.func (.func 26) #[] #[], .pointer (some ⟨ga, 0, none⟩), .pointer (some ⟨gb, 0, none⟩)] w fun e w' => e = .returned (.bool b) ∧ Below w.heap.size w w' := by
  have HT := Lib.hid (fun (A1 : Option Addr) n1 c1 A2 n2 c2 W => texts_any (.slice A1 n1 c1) (.slice A2 n2 c2) A1 n1 c1 A2 n2 c2 rfl rfl W)
  have HA := Lib.hid (hA.call ((Below.refl _ _).drewN 1))
  have HB := Lib.hid (hB.call ((Below.refl _ _).drewN 1))
  have HE := Lib.hid hE
  have q1 := hA.c0
  have q2 := hA.c1
  have q3 := hB.c0
  have q4 := hB.c1
  have HW := Lib.hid ((Below.refl w.heap.size w).drewN 1)
  clear hA hB hE
  go_enter Try.func24, Try.ntmps24
  go_wp2_with fail
  go_region_law (first
    | (go_simp
       go_at_call 26
       (with_reducible refine (HT.out A1 n1 c1 A2 n2 c2 _).mono ?_)
       rintro e u1 ⟨rfl, hb1⟩
       try clear q1 q2 q3 q4
       first
         | (have HA2 := Lib.hid (HA1.out.call hb1); have HB2 := Lib.hid (HB1.out.call hb1); have HW2 := Lib.hid (HW1.out.trans (hb1.mono HW1.out.size)); clear hb1)
         | (have HA1 := Lib.hid (HA.out.call hb1); have HB1 := Lib.hid (HB.out.call hb1); have HW1 := Lib.hid (HW.out.trans (hb1.mono HW.out.size)); have q1 := HA1.out.c0; have q2 := HA1.out.c1; have q3 := HB1.out.c0; have q4 := HB1.out.c1; clear hb1))
    | (go_simp
       go_at_call 26
       (with_reducible refine (HT.out B1 m1 d1 B2 m2 d2 _).mono ?_)
       rintro e u1 ⟨rfl, hb1⟩
       try clear q1 q2 q3 q4
       first
         | (have HA2 := Lib.hid (HA1.out.call hb1); have HB2 := Lib.hid (HB1.out.call hb1); have HW2 := Lib.hid (HW1.out.trans (hb1.mono HW1.out.size)); clear hb1)
         | (have HA1 := Lib.hid (HA.out.call hb1); have HB1 := Lib.hid (HB.out.call hb1); have HW1 := Lib.hid (HW.out.trans (hb1.mono HW.out.size)); have q1 := HA1.out.c0; have q2 := HA1.out.c1; have q3 := HB1.out.c0; have q4 := HB1.out.c1; clear hb1))
    | (go_simp
       go_at_call 25
       (with_reducible refine (HE.out _ HW2.out).mono ?_)
       rintro e u3 ⟨rfl, rfl⟩))
  all_goals
    go_wp2_with fail
    go_ret
    exact ⟨rfl, HW2.out⟩
set_option maxRecDepth 20000 in
set_option maxHeartbeats 2000000 in
theorem alike3_any (ga gb : Nat) (A1 : Option Addr) (n1 c1 : Nat) (A2 : Option Addr) (n2 c2 : Nat) (B1 : Option Addr) (m1 d1 : Nat) (B2 : Option Addr) (m2 d2 : Nat) (b : Bool) (w : World)
    (hA : NmAt w ga (.slice A1 n1 c1) (.slice A2 n2 c2)) (hB : NmAt w gb (.slice B1 m1 d1) (.slice B2 m2 d2))
    (hE : ∀ W, Below w.heap.size w W → Calls Try.prog 25 #[.slice A2 n2 c2, .slice B2 m2 d2] W fun e w' => e = .returned (.bool b) ∧ W = w') :
    Calls Try.prog 24 #[.func (.func 27) #[] #[], .pointer (some ⟨ga, 0, none⟩), .pointer (some ⟨gb, 0, none⟩)] w fun e w' => e = .returned (.bool b) ∧ Below w.heap.size w w' := by
  have HT := Lib.hid (fun (A1 : Option Addr) n1 c1 A2 n2 c2 W => textn_any (.slice A1 n1 c1) (.slice A2 n2 c2) A1 n1 c1 A2 n2 c2 rfl rfl W)
  have HA := Lib.hid (hA.call ((Below.refl _ _).drewN 1))
  have HB := Lib.hid (hB.call ((Below.refl _ _).drewN 1))
  have HE := Lib.hid hE
  have q1 := hA.c0
  have q2 := hA.c1
  have q3 := hB.c0
  have q4 := hB.c1
  have HW := Lib.hid ((Below.refl w.heap.size w).drewN 1)
  clear hA hB hE
  go_enter Try.func24, Try.ntmps24
  go_wp2_with fail
  go_region_law (first
    | (go_simp
       go_at_call 27
       (with_reducible refine (HT.out A1 n1 c1 A2 n2 c2 _).mono ?_)
       rintro e u1 ⟨rfl, hb1⟩
       try clear q1 q2 q3 q4
       first
         | (have HA2 := Lib.hid (HA1.out.call hb1); have HB2 := Lib.hid (HB1.out.call hb1); have HW2 := Lib.hid (HW1.out.trans (hb1.mono HW1.out.size)); clear hb1)
         | (have HA1 := Lib.hid (HA.out.call hb1); have HB1 := Lib.hid (HB.out.call hb1); have HW1 := Lib.hid (HW.out.trans (hb1.mono HW.out.size)); have q1 := HA1.out.c0; have q2 := HA1.out.c1; have q3 := HB1.out.c0; have q4 := HB1.out.c1; clear hb1))
    | (go_simp
       go_at_call 27
       (with_reducible refine (HT.out B1 m1 d1 B2 m2 d2 _).mono ?_)
       rintro e u1 ⟨rfl, hb1⟩
       try clear q1 q2 q3 q4
       first
         | (have HA2 := Lib.hid (HA1.out.call hb1); have HB2 := Lib.hid (HB1.out.call hb1); have HW2 := Lib.hid (HW1.out.trans (hb1.mono HW1.out.size)); clear hb1)
         | (have HA1 := Lib.hid (HA.out.call hb1); have HB1 := Lib.hid (HB.out.call hb1); have HW1 := Lib.hid (HW.out.trans (hb1.mono HW.out.size)); have q1 := HA1.out.c0; have q2 := HA1.out.c1; have q3 := HB1.out.c0; have q4 := HB1.out.c1; clear hb1))
    | (go_simp
       go_at_call 25
       (with_reducible refine (HE.out _ HW2.out).mono ?_)
       rintro e u3 ⟨rfl, rfl⟩))
  all_goals
    go_wp2_with fail
    go_ret
    exact ⟨rfl, HW2.out⟩
end Go.Proofs.Ythdnolhbefikoaa.Cd
