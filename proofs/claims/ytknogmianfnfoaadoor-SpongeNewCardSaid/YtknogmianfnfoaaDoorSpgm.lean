/- Layer 15: what a sponge squeezes, byte by byte. No program is named here. -/
import Derived.Test.YtknogmianfnfoaaDoorPerma
import Derived.Test.YtknogmianfnfoaaDoorLanem
namespace Go.Proofs.YtknogmianfnfoaaDoor.Sg
open Go.RowKit L64 Ln
set_option linter.unusedVariables false
set_option linter.unusedSimpArgs false
def nF (R : Nat) (f : Nat → Nat) (p : Nat) : Nat → Nat := if p = R then kIt f 0 24 else f
def nP (R p : Nat) : Nat := if p = R then 0 else p
def sqB (R : Nat) : Nat → (Nat → Nat) → Nat → List Nat
  | 0, _, _ => []
  | k + 1, f, p => laneB (nF R f p) (nP R p) :: sqB R k (nF R f p) (nP R p + 1)
def sqF (R : Nat) : Nat → (Nat → Nat) → Nat → Nat → Nat
  | 0, f, _ => f
  | k + 1, f, p => sqF R k (nF R f p) (nP R p + 1)
def sqP (R : Nat) : Nat → Nat → Nat
  | 0, p => p
  | k + 1, p => sqP R k (nP R p + 1)
theorem sqB_length (R : Nat) : ∀ (k : Nat) (f : Nat → Nat) (p : Nat), (sqB R k f p).length = k
  | 0, _, _ => rfl
  | k + 1, f, p => by
    show (sqB R k _ _).length + 1 = k + 1
    rw [sqB_length R k]
theorem sqB_lt (R : Nat) : ∀ (k : Nat) (f : Nat → Nat) (p : Nat), AllLt 256 (sqB R k f p)
  | 0, _, _ => fun x hx => by cases hx
  | k + 1, f, p => fun x hx => by
    rcases List.mem_cons.1 hx with rfl | hx
    · exact laneB_lt _ _
    · exact sqB_lt R k _ _ x hx
theorem nF_lt {R : Nat} {f : Nat → Nat} {p : Nat} (hf : ∀ i, f i < 18446744073709551616) (i : Nat) : nF R f p i < 18446744073709551616 := by
  unfold nF
  split
  · exact kIt_lt hf 0 24 i
  · exact hf i
theorem sqF_lt (R : Nat) : ∀ (k : Nat) (f : Nat → Nat) (p : Nat), (∀ i, f i < 18446744073709551616) → ∀ i, sqF R k f p i < 18446744073709551616
  | 0, f, p, hf => hf
  | k + 1, f, p, hf => sqF_lt R k _ _ (nF_lt hf)
theorem nP_le {R p : Nat} (hR : 0 < R) (hp : p ≤ R) : nP R p < R := by
  unfold nP
  split <;> omega
theorem sqP_le (R : Nat) (hR : 0 < R) : ∀ (k p : Nat), p ≤ R → sqP R k p ≤ R
  | 0, p, hp => hp
  | k + 1, p, hp => sqP_le R hR k _ (nP_le hR hp)
theorem sq_add (R : Nat) : ∀ (k m : Nat) (f : Nat → Nat) (p : Nat), sqB R (k + m) f p = sqB R k f p ++ sqB R m (sqF R k f p) (sqP R k p) ∧ sqF R (k + m) f p = sqF R m (sqF R k f p) (sqP R k p) ∧ sqP R (k + m) p = sqP R m (sqP R k p)
  | 0, m, f, p => by rw [Nat.zero_add]; exact ⟨rfl, rfl, rfl⟩
  | k + 1, m, f, p => by
    obtain ⟨h1, h2, h3⟩ := sq_add R k m (nF R f p) (nP R p + 1)
    rw [Nat.add_right_comm]
    refine ⟨?_, h2, h3⟩
    show _ :: sqB R (k + m) _ _ = _
    rw [h1]
    rfl
theorem sq_in (R : Nat) : ∀ (k : Nat) (f : Nat → Nat) (p : Nat), p < R → p + k ≤ R → sqB R k f p = (List.range k).map (fun i => laneB f (p + i)) ∧ sqF R k f p = f ∧ sqP R k p = p + k
  | 0, f, p, _, _ => ⟨rfl, rfl, rfl⟩
  | k + 1, f, p, hp, hk => by
    have e1 : nF R f p = f := if_neg (by omega)
    have e2 : nP R p = p := if_neg (by omega)
    show laneB (nF R f p) (nP R p) :: sqB R k (nF R f p) (nP R p + 1) = _ ∧ sqF R k (nF R f p) (nP R p + 1) = _ ∧ sqP R k (nP R p + 1) = _
    rw [e1, e2]
    cases k with
    | zero => exact ⟨rfl, rfl, rfl⟩
    | succ k =>
      obtain ⟨h1, h2, h3⟩ := sq_in R (k + 1) f (p + 1) (by omega) (by omega)
      refine ⟨?_, h2, by rw [h3]; omega⟩
      rw [h1, List.range_succ_eq_map (n := k + 1), List.map_cons, List.map_map]
      congr 1
      refine List.map_congr_left fun i _ => ?_
      show laneB f (p + 1 + i) = laneB f (p + (i + 1))
      rw [show p + 1 + i = p + (i + 1) by omega]
/-- Permuted first, where its place is the rate: the same. -/
theorem sq_norm {R : Nat} (hR : 0 < R) (k : Nat) (f : Nat → Nat) (p : Nat) : sqB R (k + 1) (nF R f p) (nP R p) = sqB R (k + 1) f p ∧ sqF R (k + 1) (nF R f p) (nP R p) = sqF R (k + 1) f p ∧ sqP R (k + 1) (nP R p) = sqP R (k + 1) p := by
  have e : nP R p ≠ R := by unfold nP; split <;> omega
  have e1 : nF R (nF R f p) (nP R p) = nF R f p := if_neg e
  have e2 : nP R (nP R p) = nP R p := if_neg e
  show laneB (nF R (nF R f p) (nP R p)) (nP R (nP R p)) :: sqB R k (nF R (nF R f p) (nP R p)) (nP R (nP R p) + 1) = laneB (nF R f p) (nP R p) :: sqB R k (nF R f p) (nP R p + 1) ∧ sqF R k (nF R (nF R f p) (nP R p)) (nP R (nP R p) + 1) = sqF R k (nF R f p) (nP R p + 1) ∧ sqP R k (nP R (nP R p) + 1) = sqP R k (nP R p + 1)
  rw [e1, e2]
  exact ⟨rfl, rfl, rfl⟩
/-- As many bytes as lie ahead of the next permutation. -/
theorem sq_block {R : Nat} (hR : 0 < R) (hR2 : R ≤ 200) (m : Nat) (hm : 0 < m) (f : Nat → Nat) (p : Nat) (hp : p ≤ R) (h : nP R p + m ≤ R) :
    sqB R m f p = outN (nF R f p) (nP R p : Nat) (m : Nat) ∧ sqF R m f p = nF R f p ∧ sqP R m p = nP R p + m := by
  obtain ⟨k, rfl⟩ : ∃ k, m = k + 1 := ⟨m - 1, by omega⟩
  obtain ⟨a1, a2, a3⟩ := sq_norm hR k f p
  obtain ⟨b1, b2, b3⟩ := sq_in R (k + 1) (nF R f p) (nP R p) (nP_le hR hp) h
  rw [← a1, ← a2, ← a3, b1, b2, b3]
  refine ⟨?_, rfl, rfl⟩
  rw [outN_win (win_in (nP R p) (k + 1) (by omega)), show nP R p + (k + 1) - nP R p = k + 1 by omega]
end Go.Proofs.YtknogmianfnfoaaDoor.Sg
