/- Layer 5: prime numbers: the document's calls and the program's. -/
import Derived.Test.YtechcmjmdepglaaDoorPrime
import Derived.WalkMore
import Derived.Deep.LoopGhost
import Derived.Deep.CutRange
namespace Go.Proofs.YtechcmjmdepglaaDoor
open Go.RowKit
set_option linter.unusedVariables false
set_option linter.unusedSimpArgs false
/-- What a call gives: as many primes as are asked for. -/
def GivesPrimes (t : TypeId) (n : Nat) (w : World) (e : Ending) (w' : World) : Prop := ∃ X, (prL X).length = n ∧ X ≤ 7920 ∧ Gives .u64 t (prL X) w e w'
theorem mulP (a b : Nat) : (a : Int) * (b : Int) = ((a * b : Nat) : Int) := (Int.natCast_mul a b).symm
def capN (n : Int) : Nat := min n.toNat 1000
set_option maxRecDepth 20000 in
set_option maxHeartbeats 4000000 in
theorem primes_any (n : Int) (hn0 : -9223372036854775808 ≤ n) (hn1 : n ≤ 9223372036854775807) (w : World) :
    Calls Tryd.prog 41 #[.int .i64 n] w (GivesPrimes 23 (capN n) w) := by
  obtain ⟨i0, hi0, hz0, hz1, hz2⟩ := info_parts5 u64_info5
  obtain ⟨N, hN⟩ : ∃ N, N = capN n := ⟨_, rfl⟩
  rw [← hN]
  have hN1 : N ≤ 1000 := by rw [hN]; unfold capN; omega
  have hm1 : n < 0 → N = 0 := fun h => by rw [hN]; unfold capN; omega
  have hm2 : 0 ≤ n → n ≤ 1000 → (N : Int) = n := fun h1 h2 => by rw [hN]; unfold capN; omega
  have hm3 : 1000 < n → N = 1000 := fun h => by rw [hN]; unfold capN; omega
  have HM1 := Lib.hid hm1
  have HM2 := Lib.hid hm2
  have HM3 := Lib.hid hm3
  clear hN hm1 hm2 hm3
  have hmk : (Instr.makeSlice 28 (.int .i64 0) (.int .i64 (N : Int))).run Tryd.prog w = .ok (.slice (some ⟨w.heap.size, 0, none⟩) 0 N) (w.alloc (.cells (zeros .u64 N) 23)) :=
    make_at (P := Tryd.prog) w (t := 28) Tryd.underlying28 hi0 hz0 hz1 _ _ 0 N rfl rfl (by omega) (by rw [hz2]; omega) (by unfold maxLen; omega)
  have HR0 := Lib.hid (Row.made0 .u64 23 w.heap.size w N (Nat.le_refl _) (by unfold maxLen; omega))
  have HB0 : Hid (Below w.heap.size w (w.alloc (.cells (zeros .u64 N) 23))) := (Below.refl _ _).alloc (Nat.le_refl _) _
  go_enter Tryd.func41, Tryd.ntmps41
  go_wp2
  go_step3
  go_upto_region 1 with fail
  go_cut [0] from 7 to 9 (fun n' wc => n' = .int .i64 (N : Int) ∧ w = wc)
  case first =>
    rcases (by omega : n < 0 ∨ (0 ≤ n ∧ n ≤ 1000) ∨ 1000 < n) with h | ⟨h1, h2⟩ | h
    · have h3 := HM1.out h
      subst h3
      go_wp2_with fail
      go_meet
      case rel => exact ⟨rfl, rfl⟩
    · have h3 := Lib.hid (HM2.out h1 h2)
      go_wp2_with fail
      go_meet
      case rel => exact ⟨by rw [h3.out], rfl⟩
    · have h3 := HM3.out h
      subst h3
      go_wp2_with fail
      go_meet
      case rel => exact ⟨rfl, rfl⟩
  case rest =>
  obtain ⟨rfl, hwc⟩ := hcut
  subst hwc
  clear HM1 HM2 HM3
  go_wp2
  go_step3
  go_wp2
  clear hmk
  go_loopg [3, 4] 7918 (fun g v x wr => ∃ X : Nat, 2 ≤ X ∧ X + g = 7920 ∧ x = .int .u64 (X : Int) ∧ Row .u64 23 w.heap.size wr v (prL X) ∧ (prL X).length ≤ N ∧ Below w.heap.size w wr)
  case atStart => exact ⟨2, by omega, by omega, rfl, by rw [prL_two]; exact HR0.out, by rw [prL_two]; exact Nat.zero_le _, HB0.out⟩
  case round =>
    clear HR0 HB0
    obtain ⟨X, hX, hXg, rfl, hrow, hlen, hB⟩ := hrel
    have HR := Lib.hid hrow
    have HB := Lib.hid hB
    obtain ⟨A, c, rfl, hw⟩ := hrow.words
    clear hrow hB
    by_cases hlt : (prL X).length < N
    · have hsm := prL_small (X := X) (by omega)
      obtain ⟨g, rfl⟩ : ∃ g, gk = g + 1 := ⟨gk - 1, by omega⟩
      have HY := Lib.hid (fun h => prL_yes (X := X) h)
      have HN := Lib.hid (fun h => prL_no (X := X) h)
      have HL := Lib.hid hlt
      have HW := Lib.hid hw
      have hl2 : (prL X).length < 1000 := by omega
      clear hlen hw
      go_wp2
      go_loopg [20] (prL X).length (fun g i wx => ∃ j : Nat, j + g = (prL X).length ∧ i = .int .i64 (j : Int) ∧ Hid (∀ i, i < j → X % (prL X).getD i 0 ≠ 0) ∧ wx = wr)
      case atStart => exact ⟨0, by omega, rfl, fun i hi => by omega, rfl⟩
      case round =>
        obtain ⟨j, hj, rfl, hz, rfl⟩ := hrel
        by_cases hjl : j < (prL X).length
        · obtain ⟨b, o, rfl, hg, hc1⟩ := HW.out.block (i := j) hjl
          obtain ⟨hp1, hp2⟩ := prL_at hjl
          have hp3 := ((isP_all _).1 hp2).1
          have HP2 := Lib.hid hp2
          have HF := Lib.hid (fun h => isP_list (j := j) hX hz.out (.inr h))
          have HG := Lib.hid (fun h1 h2 => isP_not (X := X) hp2 h1 h2)
          have HZ : Hid (X % (prL X).getD j 0 ≠ 0 → ∀ i, i < j + 1 → X % (prL X).getD i 0 ≠ 0) := fun h i hi => by
            rcases Nat.lt_or_ge i j with h1 | h1
            · exact hz.out i h1
            · obtain rfl : i = j := by omega
              exact h
          have hpp := mulP ((prL X).getD j 0) ((prL X).getD j 0)
          have hpb : (prL X).getD j 0 * (prL X).getD j 0 ≤ 8000 * 8000 := Nat.mul_le_mul (by omega) (by omega)
          have hmm : (X : Int) % (((prL X).getD j 0 : Nat) : Int) = ((X % (prL X).getD j 0 : Nat) : Int) := (Int.natCast_emod _ _).symm
          have hml : X % (prL X).getD j 0 < (prL X).getD j 0 := Nat.mod_lt _ (by omega)
          clear hp2
          generalize (prL X).getD j 0 * (prL X).getD j 0 = pp at *
          generalize X % (prL X).getD j 0 = m at *
          generalize (prL X).getD j 0 = p at *
          by_cases hbr : X < pp
          · have HYS := HF.out hbr
            clear HF HG HZ HP2 hmm hml hz
            clear HN
            have HYES := Lib.hid (HY.out (HYS))
            have hsz := HB.out.size
            generalize prL X = zs at *
            go_wp2_with (at_builtin; refine wpList_append_own _ rfl _ _ 28 rfl w.heap.size 23 i0 (.int .u64 0) 1 8 Tryd.underlying28 hi0 hz0 hz1 hz2 rfl (by decide) _ _ _ rfl (World.ownsRow.alloc HR.out _) ⟨wr.heap.size, 0, none⟩ 1 1 [.int .u64 (X : Int)] rfl rfl (one_at _ _ _) (fun u hu => by simp at hu; subst hu; rfl) (by unfold maxLen; omega) (by omega) (by simp; omega) ?_; intro v' w1 hown' hgrow _; have hB3 := Row.grown HR.out HB.out hsz hgrow; have HR3 := Lib.hid (Row.snoc (rfl : (X : Int) = ((X : Nat) : Int)) hown'); clear hown' hgrow)
            go_roundg g
            case measure => omega
            case rel => exact ⟨X + 1, by omega, by omega, by go_num, by rw [HYES.out]; exact HR3.out, by rw [HYES.out, List.length_append, List.length_singleton]; exact HL.out, hB3⟩
          · by_cases hm0 : m = 0
            · have HNO := Lib.hid (HN.out (HG.out (by omega) hm0))
              clear HF HG HZ HP2 HY HN hz
              subst hm0
              go_wp2
              go_roundg g
              case measure => omega
              case rel => exact ⟨X + 1, by omega, by omega, by go_num, by rw [HNO.out]; exact HR.out, by rw [HNO.out]; exact Nat.le_of_lt HL.out, HB.out⟩
            · have HZ1 := Lib.hid (HZ.out hm0)
              clear HF HG HZ HP2 hz
              obtain ⟨g2, rfl⟩ : ∃ g2, gk = g2 + 1 := ⟨gk - 1, by omega⟩
              go_wp2
              go_roundg g2
              case measure => omega
              case rel => exact ⟨j + 1, by omega, by go_num, HZ1, rfl⟩
        · have HYS := isP_list hX hz.out (.inl (by omega))
          clear hz HN
          have HYES := Lib.hid (HY.out (HYS))
          have hsz := HB.out.size
          generalize prL X = zs at *
          go_wp2_with (at_builtin; refine wpList_append_own _ rfl _ _ 28 rfl w.heap.size 23 i0 (.int .u64 0) 1 8 Tryd.underlying28 hi0 hz0 hz1 hz2 rfl (by decide) _ _ _ rfl (World.ownsRow.alloc HR.out _) ⟨wr.heap.size, 0, none⟩ 1 1 [.int .u64 (X : Int)] rfl rfl (one_at _ _ _) (fun u hu => by simp at hu; subst hu; rfl) (by unfold maxLen; omega) (by omega) (by simp; omega) ?_; intro v' w1 hown' hgrow _; have hB3 := Row.grown HR.out HB.out hsz hgrow; have HR3 := Lib.hid (Row.snoc (rfl : (X : Int) = ((X : Nat) : Int)) hown'); clear hown' hgrow)
          go_roundg g
          case measure => omega
          case rel => exact ⟨X + 1, by omega, by omega, by go_num, by rw [HYES.out]; exact HR3.out, by rw [HYES.out, List.length_append, List.length_singleton]; exact HL.out, hB3⟩
    · have hl0 : (prL X).length = N := by omega
      have HL0 := Lib.hid hl0
      have hX8 : X ≤ 7920 := by omega
      obtain ⟨l, hl⟩ : ∃ l, l = (prL X).length := ⟨_, rfl⟩
      rw [← hl] at HR ⊢
      have hlc : N ≤ l := by omega
      clear hw hlen hlt hl hl0
      go_wp2
      try rw [Exit.noGoto_ret]
      go_ret
      exact ⟨X, HL0.out, hX8, Gives.mk HR.out HB.out⟩
end Go.Proofs.YtechcmjmdepglaaDoor
