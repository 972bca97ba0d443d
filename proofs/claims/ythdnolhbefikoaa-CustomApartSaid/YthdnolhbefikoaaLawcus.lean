/- Layer 17's statements: names, prefixes. -/
import Derived.Test.YthdnolhbefikoaaCusp
import Derived.Lib.SlBytesConst
namespace Go.Proofs.Ythdnolhbefikoaa.Cd
open Go.RowKit Go.MapKept Rw
set_option linter.unusedVariables false
set_option linter.unusedSimpArgs false
def emailN : List Nat := [69, 109, 97, 105, 108, 32, 83, 105, 103, 110, 97, 116, 117, 114, 101]
theorem email_len : (pxN 168 [] emailN).length = 168 := by decide +kernel
theorem email_six : (pxN 168 [] emailN).take 6 = [1, 168, 1, 0, 1, 120] := by decide +kernel
section
attribute [local go_sem ↓] cut_hide
set_option maxRecDepth 20000 in
set_option maxHeartbeats 1000000 in
theorem wakes17_any (w : World) : Calls Try.prog 6 #[] w fun e w' => e = .returned (.bool true) ∧ Below w.heap.size w w' := by
  have HP : Hid (∀ W A, Words .u8 W A emailN → Calls Try.prog 8 #[.int .i64 168, .agg #[.slice none 0 0, .slice A 15 15]] W (GivesP (pxN 168 [] emailN) W)) := fun W A hw =>
    prefix_yes 168 (by decide) (by decide) (by decide) none 0 [] A 15 emailN W ⟨by intro x h; simp at h, by intro x h; simp [emailN] at h; omega, fun i hi => by simp at hi, hw⟩ (by decide) (by decide)
  have kc := fun (w : World) (C : Array Value) (n c : Nat) => Lib.run_convert_bytes_const (P := Try.prog) w 22 5 C n c Try.underlying22 Try.underlying5
  have HLT := Lib.hid (pxN_lt 168 (xs := []) (ys := emailN) (by intro x h; simp at h) (by intro x h; simp [emailN] at h; omega))
  have hlen := email_len
  have HE := Lib.hid (words_row (w := w.alloc (.cells #[.int .u8 69, .int .u8 109, .int .u8 97, .int .u8 105, .int .u8 108, .int .u8 32, .int .u8 83, .int .u8 105, .int .u8 103, .int .u8 110, .int .u8 97, .int .u8 116, .int .u8 117, .int .u8 114, .int .u8 101] 5 (15, 16))) (g := w.heap.size) (k := .u8) (t := 5) (fr := (15, 16)) (xs := emailN) (heap_alloc_new w _))
  have HB := Lib.hid ((Below.refl w.heap.size w).alloc (Nat.le_refl _) (.cells #[.int .u8 69, .int .u8 109, .int .u8 97, .int .u8 105, .int .u8 108, .int .u8 32, .int .u8 83, .int .u8 105, .int .u8 103, .int .u8 110, .int .u8 97, .int .u8 116, .int .u8 117, .int .u8 114, .int .u8 101] 5 (15, 16)))
  have hsix := email_six
  generalize emailN = em at *
  generalize pxN 168 [] em = PX at *
  have HX := Lib.hid hlen
  have HSX := Lib.hid hsix
  have H6 : Hid (∀ W A c B d, Words .u8 W A [1, 168, 1, 0, 1, 120] → Words .u8 W B [1, 168, 1, 0, 1, 120] → Calls Try.prog 13 #[.slice A 6 c, .slice B 6 d] W fun e w' => e = .returned (.bool true) ∧ Below W.heap.size W w') := fun W A c B d h1 h2 => by
    have l1 : AllLt 256 [1, 168, 1, 0, 1, 120] := by intro x h; simp at h; omega
    have := same_any [1, 168, 1, 0, 1, 120] [1, 168, 1, 0, 1, 120] l1 l1 (by decide) (by decide) W A c B d h1 h2
    rw [sameB_self] at this; exact this
  clear hlen hsix
  go_enter Try.func6, Try.ntmps6
  go_wp2_with fail
  refine (HP.out _ _ HE.out).mono ?_
  rintro e u1 ⟨A1, c1, rfl, hr1, hw1, hb1⟩
  rw [HX.out] at hr1 ⊢
  have hlc : 168 ≤ c1 ∧ c1 ≤ maxLen := by have h := row_cap (xs := PX) hr1; rwa [HX.out] at h
  have hcut := cut_to_run A1 168 c1 6 (by omega) u1
  rw [show ((6 : Nat) : Int) = 6 from rfl] at hcut
  have HB1 := Lib.hid (HB.out.trans (hb1.mono HB.out.size))
  have HW6 := Lib.hid (show Words .u8 u1 (cutA A1 c1 0) [1, 168, 1, 0, 1, 120] by rw [← HSX.out]; exact words_takeN (cutA_words (l := 0) hw1 (by rw [HX.out]; exact hlc.1)) 6)
  have HN6 := Lib.hid (words_new u1 5 .u8 [1, 168, 1, 0, 1, 120] (c := #[.int .u8 1, .int .u8 168, .int .u8 1, .int .u8 0, .int .u8 1, .int .u8 120]) rfl)
  have HB6 := Lib.hid ((Below.refl u1.heap.size u1).alloc (Nat.le_refl _) (.cells #[.int .u8 1, .int .u8 168, .int .u8 1, .int .u8 0, .int .u8 1, .int .u8 120] 5))
  clear hr1 hw1 hb1 hlc
  go_wp2_with fail
  refine (H6.out _ _ _ _ 6 (HW6.out.below HB6.out (Nat.le_refl _)) HN6.out).mono ?_
  rintro e u2 ⟨rfl, hb2⟩
  have HB2 := Lib.hid ((HB1.out.trans (HB6.out.mono HB1.out.size)).trans (hb2.mono (HB1.out.trans (HB6.out.mono HB1.out.size)).size))
  clear hb2
  go_wp2_with fail
  go_ret
  exact ⟨rfl, HB2.out⟩
end
def nmL (n m : Nat) : Bool := decide (1100 < n) || decide (1100 < m)
theorem long17_any (A : Option Addr) (n c : Nat) (B : Option Addr) (m d : Nat) (w : World) :
    Calls Try.prog 7 #[.agg #[.slice A n c, .slice B m d]] w fun e w' => e = .returned (.bool (nmL n m)) ∧ Below w.heap.size w w' := by
  have e1 : decide ((1100 : Int) < (n : Int)) = decide (1100 < n) := by simp; omega
  have e2 : decide ((1100 : Int) < (m : Int)) = decide (1100 < m) := by simp; omega
  unfold nmL
  rw [← e1, ← e2]
  clear e1 e2
  go_enter Try.func7, Try.ntmps7
  cases h1 : decide ((1100 : Int) < (n : Int)) <;> (go_wp2; go_ret; exact ⟨rfl, (Below.refl _ _).alloc (Nat.le_refl _) _⟩)
end Go.Proofs.Ythdnolhbefikoaa.Cd
