/- slices.Clone of bytes. -/
import Derived.Test.YtlfpkbiphdcpnaaRefload
import Derived.Test.YtlfpkbiphdcpnaaAppb
namespace Go.Proofs.Ytlfpkbiphdcpnaa
open Go.RowKit
set_option linter.unusedVariables false
set_option linter.unusedSimpArgs false
theorem run_nil_yes (l c : Nat) (w : World) : (binOp .eql 23 (.slice none l c) (.slice none 0 0)).run Try.prog w = .ok (.bool true) w := by kernel_rfl
theorem run_nil_no (a : Addr) (l c : Nat) (w : World) : (binOp .eql 23 (.slice (some a) l c) (.slice none 0 0)).run Try.prog w = .ok (.bool false) w := by kernel_rfl
attribute [local go_sem ↓] run_nil_yes run_nil_no
set_option maxRecDepth 20000 in
set_option maxHeartbeats 1000000 in
theorem bclone_any (A : Option Addr) (c : Nat) (xs : List Nat) (hl : xs.length ≤ 900) (w : World) (hw : Words .u8 w A xs) :
    Calls Try.prog 27 #[.slice A xs.length c] w (Gives .u8 5 xs w) := by
  obtain ⟨i0, hi0, hz0, hz1, hz2⟩ := info_parts u8_info2
  rcases A with _ | ad
  · obtain rfl : xs = [] := by
      rcases xs with _ | ⟨y, l⟩
      · rfl
      · obtain ⟨b, o, e, _⟩ := hw 0 (by simp)
        cases e
    go_enter Try.func27, Try.ntmps27
    go_wp2
    go_ret
    exact Gives.mk (Row.nil _ _ _ _) (Below.refl _ _)
  · have hrow : Row .u8 5 w.heap.size (w.alloc (.cells #[] 5)) (.slice (some ⟨w.heap.size, 0, none⟩) 0 0) [] := Row.upTo (kd := .u8) (f := fun _ => 0) w (n := 0) (Nat.le_refl _) (Nat.zero_le _)
    have HB : Hid (Below w.heap.size w (w.alloc (.cells #[] 5))) := (Below.refl _ _).alloc (Nat.le_refl _) _
    have HW := Lib.hid (hw.below HB.out (Nat.le_refl _))
    have HR := Lib.hid hrow
    clear hw hrow
    go_enter Try.func27, Try.ntmps27
    go_wp2_with (at_builtin; refine append_bytes rfl _ _ 23 rfl w.heap.size 5 i0 Try.underlying23 hi0 hz0 hz1 hz2 _ [] rfl HR.out ad c xs rfl HW.out (by simp; omega) (by simp) ?_; intro v1 w1 h1 hg1; rw [List.nil_append] at h1; have HB1 := Lib.hid (Row.grown0 HR.out HB.out (by simp) hg1); have HR1 := Lib.hid h1; clear h1 hg1)
    go_wp2
    go_ret
    exact Gives.mk HR1.out HB1.out
end Go.Proofs.Ytlfpkbiphdcpnaa
