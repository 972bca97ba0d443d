/- Layer 16: what is told again: texts; the examples. -/
import Derived.Test.YthdnolhbefikoaaCdt
import Derived.Test.YthdnolhbefikoaaClone
namespace Go.Proofs.Ythdnolhbefikoaa.Cd
open Go.RowKit
set_option linter.unusedVariables false
set_option linter.unusedSimpArgs false
theorem gtok_no {xs : List Nat} (h : gtok xs = false) : getB xs = [] ∧ getE xs = 0 := by unfold getB getE; rw [h]; exact ⟨rfl, rfl⟩
theorem gtok_yes {xs : List Nat} (h : gtok xs = true) : getB xs = (xs.drop (getS xs)).take (getN xs / 8) ∧ getE xs = getS xs + getN xs / 8 := by unfold getB getE; rw [h]; exact ⟨rfl, rfl⟩
theorem getN_lt {xs : List Nat} (hx : AllLt 256 xs) : getN xs < 18446744073709551616 := by
  unfold getN; split
  · rename_i h; exact inN_lt hx (of_decide_eq_true h).1
  · omega
theorem getB_lt {xs : List Nat} (hx : AllLt 256 xs) : AllLt 256 (getB xs) := by
  unfold getB; split
  · exact (hx.drop _).take _
  · exact fun y hy => by cases hy
theorem getE_le (xs : List Nat) : getE xs ≤ xs.length := by
  cases h : gtok xs
  · rw [(gtok_no h).2]; omega
  · rw [(gtok_yes h).2]
    unfold gtok at h
    have := of_decide_eq_true (Bool.and_eq_true_iff.1 h).2
    have := getS_le xs
    omega
theorem getB_length (xs : List Nat) : (getB xs).length ≤ xs.length := by
  unfold getB; split
  · rw [List.length_take, List.length_drop]; omega
  · simp
theorem getE_pos (xs : List Nat) : decide (0 < getE xs) = gtok xs := by
  cases h : gtok xs
  · rw [(gtok_no h).2]; rfl
  · rw [(gtok_yes h).2]
    unfold gtok at h
    have hg := (Bool.and_eq_true_iff.1 h).1
    have : getS xs = nb (inN xs) + 1 := by unfold getS; rw [if_pos hg]
    exact decide_eq_true (by omega)
theorem getS_pos2 (xs : List Nat) : decide (0 < getS xs) = glok xs := by
  cases h : glok xs
  · rw [(getN_no h).2]; rfl
  · have : getS xs = nb (inN xs) + 1 := by unfold getS; rw [if_pos h]
    exact decide_eq_true (by omega)
/-- What a call tells: so many bytes, somewhere. -/
def Told (k : Nat) (ys : List Nat) (w : World) (e : Ending) (w' : World) : Prop := ∃ A c, e = .returned (.slice A k c) ∧ Words .u8 w' A ys ∧ Below w.heap.size w w'
theorem Gives.told {t : TypeId} {ys : List Nat} {w w' : World} {e : Ending} (h : Gives .u8 t ys w e w') {k : Nat} (hk : ys.length = k) : Told k ys w e w' := by
  obtain ⟨A, c, rfl, -, hw, hb⟩ := h
  exact ⟨A, c, by rw [hk], hw, hb⟩
theorem same_any (xs ys : List Nat) (hx : AllLt 256 xs) (hy : AllLt 256 ys) (h1 : xs.length ≤ 1000000) (h2 : ys.length ≤ 1000000) (W : World) (A : Option Addr) (c : Nat) (B : Option Addr) (d : Nat) (hw : Words .u8 W A xs) (hw2 : Words .u8 W B ys) :
    Calls Try.prog 13 #[.slice A xs.length c, .slice B ys.length d] W fun e w' => e = .returned (.bool (sameB xs ys)) ∧ Below W.heap.size W w' :=
  (refSame_any A c xs hx (by unfold maxLen; omega) B d ys hy (by unfold maxLen; omega) W hw hw2).mono fun e w' h => by
    obtain ⟨rfl, m, rfl⟩ := h
    exact ⟨rfl, (Below.refl _ _).drewN m⟩
end Go.Proofs.Ythdnolhbefikoaa.Cd
