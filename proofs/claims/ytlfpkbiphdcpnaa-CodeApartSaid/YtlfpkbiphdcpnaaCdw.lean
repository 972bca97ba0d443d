/- Slices of slices of bytes that a row hands in: opened. No program is named. -/
import Derived.Test.YtlfpkbiphdcpnaaCdq
import Derived.Deep.Slices
import Derived.OpenShut
import Derived.ChangeSlices
namespace Go.Proofs.Ytlfpkbiphdcpnaa.Cd
open Go.RowKit Go.ChangeShapes Go.WideShapes Go.ChangeAt
set_option linter.unusedVariables false
theorem open_pcs {H : Type} {enc : TypeId × Value → H} {P : Program} {w : World} {base : Nat} {spare : Nat → Bool} {held : Bool} {t e b : TypeId} {fuel : Nat} {cs : List Value} {x : DataW H × List MemPlace}
    (ht : P.underlying t = some (.slice e)) (he : P.underlying e = some (.slice b)) (hb : P.underlying b = some (.int .u8)) (hce : P.cellsOf e = 1) (hcb : P.cellsOf b = 1)
    (h : DataW.trod enc P w base spare held fuel t cs = some x) :
    ∃ (A : Option Addr) (c : Nat) (ps : List (List Nat)), cs = [.slice A ps.length c] ∧ Pcs w A ps ∧ (∀ p ∈ ps, AllLt 256 p) ∧ (∀ p ∈ ps, p.length ≤ maxLen) ∧ ps.length ≤ maxLen := by
  rcases Go.Deep.open_slice1 ht hce h with ⟨rfl, _⟩ | ⟨a, len, cap, m, n, V, D, Pl, rfl, hab, hlc, hcm, hm, _, hall⟩
  · exact ⟨none, 0, [], rfl, fun i hi => by simp at hi, fun p hp => by simp at hp, fun p hp => by simp at hp, Nat.zero_le _⟩
  have key : ∀ i : Nat, ∃ p : List Nat, i < len → ∃ Ai ci, w.cell? (a.add i) = some (.slice Ai p.length ci) ∧ Words .u8 w Ai p ∧ AllLt 256 p ∧ p.length ≤ maxLen := by
    intro i
    by_cases hi : i < len
    · have hi2 : i < m := by rw [hm]; split <;> omega
      obtain ⟨hc, hd⟩ := hall i hi2
      rcases open_ints he hb hcb hd with ⟨hcs, _⟩ | ⟨x, l, c, zs, hcs, _, hl, hmx, hz, _, hcell, hwz⟩
      · refine ⟨[], fun _ => ⟨none, 0, ?_, fun i hi => by simp at hi, fun y hy => by simp at hy, Nat.zero_le _⟩⟩
        rw [hc, (List.cons.inj hcs).1]; rfl
      · have hzl : l ≤ zs.length := by rw [hz]; split <;> omega
        refine ⟨(zs.take l).map Int.toNat, fun _ => ⟨some x, c, ?_, ?_, ?_, ?_⟩⟩
        · rw [hc, (List.cons.inj hcs).1]; simp; omega
        · intro j hj
          have hj' : j < l := by simp at hj; omega
          obtain ⟨bb, o, rfl, hc'⟩ := ints_at hcell (by omega)
          refine ⟨bb, o, rfl, ?_⟩
          rw [hc' j (by omega)]
          have hwf := bounds_u8 (hwz (zs.getD j 0) (by rw [List.getD_eq_getElem?_getD, List.getElem?_eq_getElem (by omega)]; exact List.getElem_mem _))
          simp only [List.getD_eq_getElem?_getD, List.getElem?_map, List.getElem?_take_of_lt hj'] at hwf ⊢
          rw [List.getElem?_eq_getElem (by omega)] at hwf ⊢
          simp only [Option.map_some, Option.getD_some] at hwf ⊢
          rw [Int.toNat_of_nonneg hwf.1]
        · intro y hy
          obtain ⟨z, hz1, rfl⟩ := List.mem_map.1 hy
          have := bounds_u8 (hwz z (List.mem_of_mem_take hz1))
          omega
        · simp; omega
    · exact ⟨[], fun h => absurd h hi⟩
  obtain ⟨f, hf⟩ := Classical.axiomOfChoice key
  have hln : ((List.range len).map f).length = len := by simp
  refine ⟨some a, cap, (List.range len).map f, by rw [hln], fun i hi => ?_, fun p hp => ?_, fun p hp => ?_, by rw [hln]; omega⟩
  · rw [hln] at hi
    obtain ⟨Ai, ci, hc, hw, _, _⟩ := hf i hi
    have hs : a.spot = none := by
      obtain ⟨_, _, hc0, _⟩ := hf 0 (by omega)
      have := World.cell?_spot hc0
      simpa [Addr.add] using this
    obtain ⟨bb, o, sp⟩ := a
    simp only at hs
    subst hs
    rw [Go.WideShapes.add_plain] at hc
    refine ⟨bb, o, Ai, ci, rfl, ?_, ?_⟩
    · rw [hc]; simp [List.getD_eq_getElem?_getD, List.getElem?_map, List.getElem?_range hi]
    · simpa [List.getD_eq_getElem?_getD, List.getElem?_map, List.getElem?_range hi] using hw
  · obtain ⟨i, hi, rfl⟩ := List.mem_map.1 hp
    obtain ⟨_, _, _, _, h1, _⟩ := hf i (List.mem_range.1 hi)
    exact h1
  · obtain ⟨i, hi, rfl⟩ := List.mem_map.1 hp
    obtain ⟨_, _, _, _, _, h1⟩ := hf i (List.mem_range.1 hi)
    exact h1
end Go.Proofs.Ytlfpkbiphdcpnaa.Cd
