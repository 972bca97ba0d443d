/- Layer 17: names held against each other. -/
import Derived.Test.YthdnolhbefikoaaCusa
namespace Go.Proofs.Ythdnolhbefikoaa.Cd
open Go.RowKit Go.MapKept Rw
set_option linter.unusedVariables false
set_option linter.unusedSimpArgs false
/-- Is a name empty? Are its texts short enough? -/
def nmE (xs ys : List Nat) : Bool := decide (xs = []) && decide (ys = [])
def nmR (xs ys : List Nat) : Bool := decide (xs.length ≤ 1000) && decide (ys.length ≤ 1000)
set_option maxRecDepth 20000 in
set_option maxHeartbeats 1000000 in
theorem same17_any (A1 : Option Addr) (c1 : Nat) (xs1 : List Nat) (A2 : Option Addr) (c2 : Nat) (xs2 : List Nat) (B1 : Option Addr) (d1 : Nat) (ys1 : List Nat) (B2 : Option Addr) (d2 : Nat) (ys2 : List Nat)
    (hx1 : AllLt 256 xs1) (hx2 : AllLt 256 xs2) (hy1 : AllLt 256 ys1) (hy2 : AllLt 256 ys2) (w : World) (h1 : Words .u8 w A1 xs1) (h2 : Words .u8 w A2 xs2) (h3 : Words .u8 w B1 ys1) (h4 : Words .u8 w B2 ys2) :
    Calls Try.prog 15 #[.agg #[.slice A1 xs1.length c1, .slice A2 xs2.length c2], .agg #[.slice B1 ys1.length d1, .slice B2 ys2.length d2]] w
      fun e w' => e = .returned (.bool (decide (xs1 = ys1) && decide (xs2 = ys2))) ∧ Below w.heap.size w w' := by
  have E1 : Hid (∀ W, Below w.heap.size w W → Calls Try.prog 25 #[.slice A1 xs1.length c1, .slice B1 ys1.length d1] W fun e w' => e = .returned (.bool (decide (xs1 = ys1))) ∧ W = w') := fun W hb =>
    equal_all A1 c1 xs1 B1 d1 ys1 hx1 hy1 W (h1.below hb (Nat.le_refl _)) (h3.below hb (Nat.le_refl _))
  have E2 : Hid (∀ W, Below w.heap.size w W → Calls Try.prog 25 #[.slice A2 xs2.length c2, .slice B2 ys2.length d2] W fun e w' => e = .returned (.bool (decide (xs2 = ys2))) ∧ W = w') := fun W hb =>
    equal_all A2 c2 xs2 B2 d2 ys2 hx2 hy2 W (h2.below hb (Nat.le_refl _)) (h4.below hb (Nat.le_refl _))
  generalize decide (xs1 = ys1) = b1 at *
  generalize decide (xs2 = ys2) = b2 at *
  generalize xs1.length = n1 at *
  generalize xs2.length = n2 at *
  generalize ys1.length = m1 at *
  generalize ys2.length = m2 at *
  clear h1 h2 h3 h4 hx1 hx2 hy1 hy2
  have HB0 := Lib.hid (((Below.refl w.heap.size w).alloc (Nat.le_refl _) (.cells #[.slice A1 n1 c1, .slice A2 n2 c2] 24)).alloc (by simp) (.cells #[.slice B1 m1 d1, .slice B2 m2 d2] 24))
  have HA := Lib.hid (NmAt.mk ((Hold.new w #[.slice A1 n1 c1, .slice A2 n2 c2] 24 2 rfl).past (.cells #[.slice B1 m1 d1, .slice B2 m2 d2] 24)))
  have HB := Lib.hid (NmAt.mk (Hold.new1 w (.cells #[.slice A1 n1 c1, .slice A2 n2 c2] 24) #[.slice B1 m1 d1, .slice B2 m2 d2] 24 2 rfl))
  go_enter Try.func15, Try.ntmps15
  cases b1 with
  | false =>
    go_wp2_with (first
      | (go_at_call 24
         (with_reducible refine (alike2_any _ _ A1 n1 c1 A2 n2 c2 B1 m1 d1 B2 m2 d2 false _ HA.out HB.out (fun W hb => E1.out W (HB0.out.trans (hb.mono (by simp; omega))))).mono ?_)
         rintro e u1 ⟨rfl, hb1⟩
         have HB1 := Lib.hid (HB0.out.trans (hb1.mono (by simp; omega)))))
    go_ret
    exact ⟨rfl, HB1.out⟩
  | true =>
    go_wp2_with (first
      | (go_at_call 24
         (with_reducible refine (alike2_any _ _ A1 n1 c1 A2 n2 c2 B1 m1 d1 B2 m2 d2 true _ HA.out HB.out (fun W hb => E1.out W (HB0.out.trans (hb.mono (by simp; omega))))).mono ?_)
         rintro e u1 ⟨rfl, hb1⟩
         have HA1 := Lib.hid (HA.out.call hb1)
         have HB1 := Lib.hid (HB.out.call hb1)
         have HC1 := Lib.hid (HB0.out.trans (hb1.mono (by simp; omega)))
         clear hb1)
      | (go_at_call 24
         (with_reducible refine (alike3_any _ _ A1 n1 c1 A2 n2 c2 B1 m1 d1 B2 m2 d2 b2 _ HA1.out HB1.out (fun W hb => E2.out W (HC1.out.trans (hb.mono HC1.out.size)))).mono ?_)
         rintro e u2 ⟨rfl, hb2⟩
         have HC2 := Lib.hid (HC1.out.trans (hb2.mono HC1.out.size))
         clear hb2))
    go_ret
    exact ⟨rfl, HC2.out⟩
set_option maxHeartbeats 1000000 in
theorem isEmpty_any (A1 : Option Addr) (c1 : Nat) (xs1 : List Nat) (A2 : Option Addr) (c2 : Nat) (xs2 : List Nat) (hx1 : AllLt 256 xs1) (hx2 : AllLt 256 xs2) (w : World) (h1 : Words .u8 w A1 xs1) (h2 : Words .u8 w A2 xs2) :
    Calls Try.prog 18 #[.agg #[.slice A1 xs1.length c1, .slice A2 xs2.length c2]] w fun e w' => e = .returned (.bool (nmE xs1 xs2)) ∧ Below w.heap.size w w' := by
  have hB := (Below.refl w.heap.size w).alloc (Nat.le_refl _) (.cells #[.slice A1 xs1.length c1, .slice A2 xs2.length c2] 24)
  have S1 := Lib.hid (same17_any A1 c1 xs1 A2 c2 xs2 none 0 [] none 0 [] hx1 hx2 (by intro x h; simp at h) (by intro x h; simp at h) _ (h1.below hB (Nat.le_refl _)) (h2.below hB (Nat.le_refl _)) (fun i hi => by simp at hi) (fun i hi => by simp at hi))
  rw [show (decide (xs1 = []) && decide (xs2 = [])) = nmE xs1 xs2 from rfl, List.length_nil] at S1
  have HB := Lib.hid hB
  generalize nmE xs1 xs2 = b at *
  generalize xs1.length = n1 at *
  generalize xs2.length = n2 at *
  clear h1 h2 hx1 hx2 hB
  go_enter Try.func18, Try.ntmps18
  go_wp2_with (first
      | (go_at_call 15
         (with_reducible refine (S1.out).mono ?_)
         rintro e u1 ⟨rfl, hb1⟩
         have HB1 := Lib.hid (HB.out.trans (hb1.mono HB.out.size))))
  go_ret
  exact ⟨rfl, HB1.out⟩
theorem suffix_any (A1 : Option Addr) (c1 : Nat) (xs1 : List Nat) (A2 : Option Addr) (c2 : Nat) (xs2 : List Nat) (hx1 : AllLt 256 xs1) (hx2 : AllLt 256 xs2) (w : World) (h1 : Words .u8 w A1 xs1) (h2 : Words .u8 w A2 xs2) :
    Calls Try.prog 12 #[.agg #[.slice A1 xs1.length c1, .slice A2 xs2.length c2]] w fun e w' => e = .returned (.int .i64 (if nmE xs1 xs2 then 31 else 4)) ∧ Below w.heap.size w w' := by
  have hB := (Below.refl w.heap.size w).alloc (Nat.le_refl _) (.cells #[.slice A1 xs1.length c1, .slice A2 xs2.length c2] 24)
  have S1 := Lib.hid (isEmpty_any A1 c1 xs1 A2 c2 xs2 hx1 hx2 _ (h1.below hB (Nat.le_refl _)) (h2.below hB (Nat.le_refl _)))
  have HB := Lib.hid hB
  generalize nmE xs1 xs2 = b at *
  generalize xs1.length = n1 at *
  generalize xs2.length = n2 at *
  clear h1 h2 hx1 hx2 hB
  go_enter Try.func12, Try.ntmps12
  cases b <;>
    (go_wp2_with (first
      | (go_at_call 18
         (with_reducible refine (S1.out).mono ?_)
         rintro e u1 ⟨rfl, hb1⟩
         have HB1 := Lib.hid (HB.out.trans (hb1.mono HB.out.size))))
     go_ret
     exact ⟨rfl, HB1.out⟩)
theorem refRight17_any (A : Option Addr) (n c : Nat) (B : Option Addr) (m d : Nat) (w : World) :
    Calls Try.prog 9 #[.agg #[.slice A n c, .slice B m d]] w fun e w' => e = .returned (.bool (decide (n ≤ 1000) && decide (m ≤ 1000))) ∧ Below w.heap.size w w' := by
  have e1 : decide ((n : Int) ≤ 1000) = decide (n ≤ 1000) := by simp; omega
  have e2 : decide ((m : Int) ≤ 1000) = decide (m ≤ 1000) := by simp; omega
  rw [← e1, ← e2]
  clear e1 e2
  go_enter Try.func9, Try.ntmps9
  cases h1 : decide ((n : Int) ≤ 1000) <;> (go_wp2; go_ret; exact ⟨rfl, (Below.refl _ _).alloc (Nat.le_refl _) _⟩)
theorem refEmpty_any (A : Option Addr) (n c : Nat) (B : Option Addr) (m d : Nat) (hn : n ≤ 1000000) (hm : m ≤ 1000000) (w : World) :
    Calls Try.prog 10 #[.agg #[.slice A n c, .slice B m d]] w fun e w' => e = .returned (.bool (decide (n = 0) && decide (m = 0))) ∧ Below w.heap.size w w' := by
  have e1 : ((n : Int) + (m : Int) == 0) = (decide (n = 0) && decide (m = 0)) := by
    rw [← Bool.decide_and, Bool.eq_iff_iff, beq_iff_eq, decide_eq_true_iff]; omega
  rw [← e1]
  clear e1
  go_enter Try.func10, Try.ntmps10
  go_wp2
  go_ret
  exact ⟨rfl, (Below.refl _ _).alloc (Nat.le_refl _) _⟩
theorem nmE_len (xs ys : List Nat) : nmE xs ys = (decide (xs.length = 0) && decide (ys.length = 0)) := by
  unfold nmE; simp [List.length_eq_zero_iff]
set_option maxHeartbeats 1000000 in
theorem refSame17_any (A1 : Option Addr) (c1 : Nat) (xs1 : List Nat) (A2 : Option Addr) (c2 : Nat) (xs2 : List Nat) (B1 : Option Addr) (d1 : Nat) (ys1 : List Nat) (B2 : Option Addr) (d2 : Nat) (ys2 : List Nat)
    (hx1 : AllLt 256 xs1) (hx2 : AllLt 256 xs2) (hy1 : AllLt 256 ys1) (hy2 : AllLt 256 ys2) (l1 : xs1.length ≤ 1000000) (l2 : xs2.length ≤ 1000000) (l3 : ys1.length ≤ 1000000) (l4 : ys2.length ≤ 1000000)
    (w : World) (h1 : Words .u8 w A1 xs1) (h2 : Words .u8 w A2 xs2) (h3 : Words .u8 w B1 ys1) (h4 : Words .u8 w B2 ys2) :
    Calls Try.prog 16 #[.agg #[.slice A1 xs1.length c1, .slice A2 xs2.length c2], .agg #[.slice B1 ys1.length d1, .slice B2 ys2.length d2]] w
      fun e w' => e = .returned (.bool (sameB xs1 ys1 && sameB xs2 ys2)) ∧ Below w.heap.size w w' := by
  have HB0 := Lib.hid (((Below.refl w.heap.size w).alloc (Nat.le_refl _) (.cells #[.slice A1 xs1.length c1, .slice A2 xs2.length c2] 24)).alloc (by simp) (.cells #[.slice B1 ys1.length d1, .slice B2 ys2.length d2] 24))
  have E1 := Lib.hid (same_any xs1 ys1 hx1 hy1 l1 l3 _ A1 c1 B1 d1 (h1.below HB0.out (Nat.le_refl _)) (h3.below HB0.out (Nat.le_refl _)))
  have E2 : Hid (∀ W, Below w.heap.size w W → Calls Try.prog 13 #[.slice A2 xs2.length c2, .slice B2 ys2.length d2] W fun e w' => e = .returned (.bool (sameB xs2 ys2)) ∧ Below W.heap.size W w') := fun W hb =>
    same_any xs2 ys2 hx2 hy2 l2 l4 W A2 c2 B2 d2 (h2.below hb (Nat.le_refl _)) (h4.below hb (Nat.le_refl _))
  have HA := Lib.hid (NmAt.mk ((Hold.new w #[.slice A1 xs1.length c1, .slice A2 xs2.length c2] 24 2 rfl).past (.cells #[.slice B1 ys1.length d1, .slice B2 ys2.length d2] 24)))
  have HB := Lib.hid (NmAt.mk (Hold.new1 w (.cells #[.slice A1 xs1.length c1, .slice A2 xs2.length c2] 24) #[.slice B1 ys1.length d1, .slice B2 ys2.length d2] 24 2 rfl))
  generalize sameB xs1 ys1 = b1 at *
  generalize sameB xs2 ys2 = b2 at *
  generalize xs1.length = n1 at *
  generalize xs2.length = n2 at *
  generalize ys1.length = m1 at *
  generalize ys2.length = m2 at *
  clear h1 h2 h3 h4 hx1 hx2 hy1 hy2
  go_enter Try.func16, Try.ntmps16
  cases b1 with
  | false =>
    go_wp2_with (first
      | (go_at_call 13
         (with_reducible refine (E1.out).mono ?_)
         rintro e u1 ⟨rfl, hb1⟩
         have HB1 := Lib.hid (HB0.out.trans (hb1.mono (by simp; omega)))))
    go_ret
    exact ⟨rfl, HB1.out⟩
  | true =>
    go_wp2_with (first
      | (go_at_call 13
         (with_reducible refine (E1.out).mono ?_)
         rintro e u1 ⟨rfl, hb1⟩
         have HA1 := HA.out.call hb1
         have HB1 := HB.out.call hb1
         have q1 := HA1.c1
         have q2 := HB1.c1
         have HC1 := Lib.hid (HB0.out.trans (hb1.mono (by simp; omega)))
         clear hb1 HA1 HB1)
      | (go_at_call 13
         (with_reducible refine (E2.out _ HC1.out).mono ?_)
         rintro e u2 ⟨rfl, hb2⟩
         have HC2 := Lib.hid (HC1.out.trans (hb2.mono HC1.out.size))
         clear hb2))
    go_ret
    exact ⟨rfl, HC2.out⟩
end Go.Proofs.Ythdnolhbefikoaa.Cd
