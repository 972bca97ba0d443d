/- Layer 10: pad: Of and Size. -/
import Derived.Test.YtpmnikcohadlmaaLawpad
import Derived.Test.YtpmnikcohadlmaaCountio
import Derived.Laws.CopyOwn
import Derived.Deep.RegionLaw
namespace Go.Proofs.Ytpmnikcohadlmaa
open Go.RowKit
set_option linter.unusedVariables false
set_option linter.unusedSimpArgs false
theorem frozen_rowP {w : World} {g i : Nat} {c : Array Value} {t : TypeId} (hg : w.heap[g]? = some (.cells c t (0, 0))) : w.frozen? ⟨g, i, none⟩ = false := by
  unfold World.frozen?
  simp [hg]
theorem zeros_listP (n : Nat) : zeros .u8 n = (List.replicate n (Value.int .u8 0)).toArray := by
  apply Array.ext'
  apply List.ext_getElem?
  intro i
  rw [List.getElem?_replicate]
  by_cases h : i < n
  · rw [if_pos h, Array.getElem?_toList, zeros_at _ _ _ h]
  · rw [if_neg h, Array.getElem?_toList, Array.getElem?_eq_none (by rw [zeros_size]; omega)]
theorem lb64 (w : World) : Calls Try.prog 17 #[.int .i64 64] w fun e w' => e = .returned (.int .i64 8) ∧ w' = w := by
  go_enter Try.func17, Try.ntmps17
  go_wp2
  go_ret
  exact ⟨rfl, rfl⟩
theorem lb128 (w : World) : Calls Try.prog 17 #[.int .i64 128] w fun e w' => e = .returned (.int .i64 16) ∧ w' = w := by
  go_enter Try.func17, Try.ntmps17
  go_wp2
  go_ret
  exact ⟨rfl, rfl⟩
set_option maxHeartbeats 1000000 in
theorem size_no (hi lo : Nat) (hh : hi < 18446744073709551616) (hl : lo < 18446744073709551616) (m : Int) (hf : fitsB (numC hi lo) m = false) (w : World) :
    Calls Try.prog 11 #[.agg #[.int .u64 (hi : Int), .int .u64 (lo : Int)], .int .i64 m] w fun e w' => e = .returned (.int .i64 0) ∧ Below w.heap.size w w' := by
  have HF := Lib.hid (fun W => fits_any hi lo hh hl m W)
  rw [hf] at HF
  clear hf
  have HB := Lib.hid ((Below.refl w.heap.size w).alloc (Nat.le_refl _) (.cells #[.int .u64 (hi : Int), .int .u64 (lo : Int)] 24))
  go_enter Try.func11, Try.ntmps11
  go_wp2_with fail
  refine (HF.out _).mono ?_
  rintro e w1 ⟨rfl, hb1⟩
  have HB1 := Lib.hid (HB.out.trans (hb1.mono (by simp)))
  clear hb1 HF HB
  go_wp2
  go_ret
  exact ⟨rfl, HB1.out⟩
set_option maxHeartbeats 1000000 in
theorem size_64 (hi lo : Nat) (hh : hi < 18446744073709551616) (hl : lo < 18446744073709551616) (hf : fitsB (numC hi lo) 64 = true) (w : World) :
    Calls Try.prog 11 #[.agg #[.int .u64 (hi : Int), .int .u64 (lo : Int)], .int .i64 64] w fun e w' => e = .returned (.int .i64 ((padL (numC hi lo) 64).length : Nat)) ∧ Below w.heap.size w w' := by
  have HF := Lib.hid (fun W => fits_any hi lo hh hl 64 W)
  have HM := Lib.hid (fun W => mod_any hi lo hh hl 64 (by omega) (by omega) W)
  have hmod : modC (numC hi lo) 64 = ((numC hi lo % 64 : Nat) : Int) := by unfold modC; rw [if_pos (by omega)]; omega
  rw [hf] at HF
  rw [hmod] at HM
  have hr : numC hi lo % 64 < 64 := Nat.mod_lt _ (by omega)
  have HL := Lib.hid (padL_length (numC hi lo) 64)
  rw [show 64 / 8 = 8 from rfl] at HL
  unfold padZ at HL
  clear hf hmod
  generalize padL (numC hi lo) 64 = PL at *
  generalize numC hi lo % 64 = r at *
  have HB := Lib.hid ((Below.refl w.heap.size w).alloc (Nat.le_refl _) (.cells #[.int .u64 (hi : Int), .int .u64 (lo : Int)] 24))
  go_enter Try.func11, Try.ntmps11
  go_wp2_with fail
  refine (HF.out _).mono ?_
  rintro e w1 ⟨rfl, hb1⟩
  obtain ⟨c1, c2, c3⟩ := box_new (k := 2) hb1 rfl
  have HB1 := Lib.hid (HB.out.trans (hb1.mono (by simp)))
  clear hb1 HF HB
  go_wp2_with fail
  refine (lb64 _).mono ?_
  rintro e w2 ⟨rfl, rfl⟩
  go_wp2_with fail
  refine (HM.out _).mono ?_
  rintro e w3 ⟨rfl, hb3⟩
  have HB3 := Lib.hid (HB1.out.trans (hb3.mono HB1.out.size))
  clear hb3 c1 c2 c3 HB1
  go_wp2
  go_ret
  refine ⟨?_, HB3.out⟩
  refine congrArg (fun z => Ending.returned (.int .i64 z)) ?_
  have := HL.out
  omega
set_option maxHeartbeats 1000000 in
theorem size_128 (hi lo : Nat) (hh : hi < 18446744073709551616) (hl : lo < 18446744073709551616) (hf : fitsB (numC hi lo) 128 = true) (w : World) :
    Calls Try.prog 11 #[.agg #[.int .u64 (hi : Int), .int .u64 (lo : Int)], .int .i64 128] w fun e w' => e = .returned (.int .i64 ((padL (numC hi lo) 128).length : Nat)) ∧ Below w.heap.size w w' := by
  have HF := Lib.hid (fun W => fits_any hi lo hh hl 128 W)
  have HM := Lib.hid (fun W => mod_any hi lo hh hl 128 (by omega) (by omega) W)
  have hmod : modC (numC hi lo) 128 = ((numC hi lo % 128 : Nat) : Int) := by unfold modC; rw [if_pos (by omega)]; omega
  rw [hf] at HF
  rw [hmod] at HM
  have hr : numC hi lo % 128 < 128 := Nat.mod_lt _ (by omega)
  have HL := Lib.hid (padL_length (numC hi lo) 128)
  rw [show 128 / 8 = 16 from rfl] at HL
  unfold padZ at HL
  clear hf hmod
  generalize padL (numC hi lo) 128 = PL at *
  generalize numC hi lo % 128 = r at *
  have HB := Lib.hid ((Below.refl w.heap.size w).alloc (Nat.le_refl _) (.cells #[.int .u64 (hi : Int), .int .u64 (lo : Int)] 24))
  go_enter Try.func11, Try.ntmps11
  go_wp2_with fail
  refine (HF.out _).mono ?_
  rintro e w1 ⟨rfl, hb1⟩
  obtain ⟨c1, c2, c3⟩ := box_new (k := 2) hb1 rfl
  have HB1 := Lib.hid (HB.out.trans (hb1.mono (by simp)))
  clear hb1 HF HB
  go_wp2_with fail
  refine (lb128 _).mono ?_
  rintro e w2 ⟨rfl, rfl⟩
  go_wp2_with fail
  refine (HM.out _).mono ?_
  rintro e w3 ⟨rfl, hb3⟩
  have HB3 := Lib.hid (HB1.out.trans (hb3.mono HB1.out.size))
  clear hb3 c1 c2 c3 HB1
  go_wp2
  go_ret
  refine ⟨?_, HB3.out⟩
  refine congrArg (fun z => Ending.returned (.int .i64 z)) ?_
  have := HL.out
  omega
theorem size_any : SizeC := by
  intro hi lo hh hl m h0 h1 w
  cases hf : fitsB (numC hi lo) m with
  | false =>
    have e : padOf (numC hi lo) m = [] := by unfold padOf; rw [hf]; rfl
    rw [e]
    exact size_no hi lo hh hl m hf w
  | true =>
    have e : padOf (numC hi lo) m = padL (numC hi lo) m.toNat := by unfold padOf; rw [hf]; rfl
    rw [e]
    rcases of_decide_eq_true hf with ⟨rfl, _⟩ | ⟨rfl, _⟩
    · exact size_64 hi lo hh hl hf w
    · exact size_128 hi lo hh hl hf w
end Go.Proofs.Ytpmnikcohadlmaa
