/- Layer 15: Read and Sum. -/
import Derived.Test.YtknogmianfnfoaaDoorSpgb
import Derived.Test.YtknogmianfnfoaaDoorSpgc
namespace Go.Proofs.YtknogmianfnfoaaDoor.Sg
open Go.RowKit L64 Rw Ln
set_option linter.unusedVariables false
set_option linter.unusedSimpArgs false
/-- Turned first, where n bytes are to be read and nothing was. -/
def rdF (R S : Nat) (f : Nat → Nat) (p : Nat) (rd : Bool) (n : Nat) : Nat → Nat := if 0 < n ∧ rd = false then turned R S f p else f
def rdP (p : Nat) (rd : Bool) (n : Nat) : Nat := if 0 < n ∧ rd = false then 0 else p
def rdR (rd : Bool) (n : Nat) : Bool := rd || decide (0 < n)
theorem turned_lt {R S : Nat} {f : Nat → Nat} {p : Nat} (i : Nat) : turned R S f p i < 18446744073709551616 := by
  unfold turned
  exact kIt_lt (fun i => xorN_lt (by intro x hx; simp at hx; omega) i) 0 24 i
/-- What Read tells. -/
def ReadC (n R S : Nat) (f : Nat → Nat) (p : Nat) (rd : Bool) (N : Nat) (w : World) (e : Ending) (w' : World) : Prop :=
  ∃ v, e = .returned (.tuple #[v, .int .i64 0]) ∧ Row .u8 5 w.heap.size w' v (sqB R N (rdF R S f p rd N) (rdP p rd N)) ∧ Turns n 29 (spC R S (sqF R N (rdF R S f p rd N) (rdP p rd N)) (sqP R N (rdP p rd N)) (rdR rd N)) w w'
set_option maxRecDepth 100000 in
set_option maxHeartbeats 4000000 in
theorem read_any (n R S : Nat) (f : Nat → Nat) (hf : ∀ i, f i < 18446744073709551616) (p : Nat) (hR : 0 < R) (hR2 : R ≤ 200) (hS : S < 256) (hp : p ≤ R) (rd : Bool) (N : Nat) (hN : N ≤ 1048576) (w : World) (hs : Sp w n R S f p rd) (ht : OTab w) (hn : 0 ≠ n) :
    Calls Tryd.prog 13 #[.pointer (some ⟨n, 0, none⟩), .int .i64 (N : Nat)] w (ReadC n R S f p rd N w) := by
  have C1 : Hid (∀ W, Calls Tryd.prog 11 #[.int .i64 (N : Nat)] W fun e w' => e = .returned (.bool true) ∧ W = w') := fun W => (isRead_any N W).mono fun e w' ⟨h1, h2⟩ => ⟨by rw [h1, show readB (N : Nat) = true by unfold readB; simp; omega], h2⟩
  have HS := Lib.hid hs
  have HO := Lib.hid ht
  have F1 := spF (P := Tryd.prog) hs
  have a3 := F1.read
  have hlt := hs.lt
  clear hs ht F1
  by_cases hc : 0 < N ∧ rd = false
  · obtain ⟨hN0, rfl⟩ := hc
    have hd : decide ((0 : Int) < (N : Int)) = true := decide_eq_true (by omega)
    have e1 : rdF R S f p false N = turned R S f p := if_pos ⟨hN0, rfl⟩
    have e2 : rdP p false N = 0 := if_pos ⟨hN0, rfl⟩
    have e3 : rdR false N = true := by unfold rdR; simp [hN0]
    have HE := Lib.hid (And.intro e1 (And.intro e2 e3))
    clear e1 e2 e3
    go_enter Tryd.func13, Tryd.ntmps13
    go_wp2_with fail
    refine (C1.out _).mono ?_
    rintro e w1 ⟨rfl, rfl⟩
    go_wp2_with fail
    refine (turn_any n R S f hf p (by omega) (by omega) hS false _ HS.out HO.out hn).mono ?_
    rintro e w2 ⟨rfl, T2⟩
    have HT2 := Lib.hid T2
    have hsz := T2.size
    clear T2
    go_wp2_with fail
    refine (squeeze_any n R S _ turned_lt 0 hR hR2 (by omega) true N hN _ HT2.out.row (HO.out.turns HT2.out hn) hn).mono ?_
    rintro e w3 ⟨v, rfl, hr3, T3⟩
    have HR3 := Lib.hid (hr3.mono hsz)
    have HT3 := Lib.hid (HT2.out.trans T3)
    clear T3 hr3
    go_wp2_with fail
    go_ret2
    refine ⟨v, rfl, ?_, ?_⟩
    · rw [HE.out.1, HE.out.2.1]; exact HR3.out
    · rw [HE.out.1, HE.out.2.1, HE.out.2.2]; exact HT3.out
  · have e1 : rdF R S f p rd N = f := if_neg hc
    have e2 : rdP p rd N = p := if_neg hc
    have e3 : rdR rd N = rd := by
      unfold rdR
      cases rd
      · simp at hc ⊢; exact hc
      · rfl
    have HE := Lib.hid (And.intro e1 (And.intro e2 e3))
    clear e1 e2 e3
    have hcut : (0 < N ∧ rd = true) ∨ ¬ 0 < N := by
      by_cases h0 : 0 < N
      · exact .inl ⟨h0, by cases rd; exact absurd ⟨h0, rfl⟩ hc; rfl⟩
      · exact .inr h0
    clear hc
    rcases hcut with ⟨hd, rfl⟩ | hd
    · go_enter Tryd.func13, Tryd.ntmps13
      go_wp2_with fail
      refine (C1.out _).mono ?_
      rintro e w1 ⟨rfl, rfl⟩
      go_wp2_with fail
      refine (squeeze_any n R S f hf p hR hR2 hp true N hN _ HS.out HO.out hn).mono ?_
      rintro e w3 ⟨v, rfl, hr3, T3⟩
      have HR3 := Lib.hid hr3
      have HT3 := Lib.hid T3
      clear T3 hr3
      go_wp2_with fail
      go_ret2
      refine ⟨v, rfl, ?_, ?_⟩
      · rw [HE.out.1, HE.out.2.1]; exact HR3.out
      · rw [HE.out.1, HE.out.2.1, HE.out.2.2]; exact HT3.out
    · go_enter Tryd.func13, Tryd.ntmps13
      go_wp2_with fail
      refine (C1.out _).mono ?_
      rintro e w1 ⟨rfl, rfl⟩
      go_wp2_with fail
      refine (squeeze_any n R S f hf p hR hR2 hp rd N hN _ HS.out HO.out hn).mono ?_
      rintro e w3 ⟨v, rfl, hr3, T3⟩
      have HR3 := Lib.hid hr3
      have HT3 := Lib.hid T3
      clear T3 hr3
      go_wp2_with fail
      go_ret2
      refine ⟨v, rfl, ?_, ?_⟩
      · rw [HE.out.1, HE.out.2.1]; exact HR3.out
      · rw [HE.out.1, HE.out.2.1, HE.out.2.2]; exact HT3.out
/-- A number of bytes that isn't read. -/
theorem read_bad (ptr : Value) (N : Int) (hN : readB N = false) (w : World) :
    Calls Tryd.prog 13 #[ptr, .int .i64 N] w fun e w' => e = .returned (.tuple #[.slice none 0 0, .int .i64 1]) ∧ w = w' := by
  have C1 : Hid (∀ W, Calls Tryd.prog 11 #[.int .i64 N] W fun e w' => e = .returned (.bool false) ∧ W = w') := fun W => (isRead_any N W).mono fun e w' ⟨h1, h2⟩ => ⟨by rw [h1, hN], h2⟩
  clear hN
  go_enter Tryd.func13, Tryd.ntmps13
  go_wp2_with fail
  refine (C1.out _).mono ?_
  rintro e w1 ⟨rfl, rfl⟩
  go_wp2_with fail
  go_ret2
  exact ⟨rfl, rfl⟩
set_option maxRecDepth 100000 in
set_option maxHeartbeats 4000000 in
theorem sum_any (n R S : Nat) (f : Nat → Nat) (hf : ∀ i, f i < 18446744073709551616) (p : Nat) (hR : 0 < R) (hR2 : R ≤ 200) (hS : S < 256) (hp : p ≤ R) (N : Nat) (hN : N ≤ 1048576) (w : World) (hs : Sp w n R S f p false) (ht : OTab w) (hn : 0 ≠ n) :
    Calls Tryd.prog 8 #[.pointer (some ⟨n, 0, none⟩), .int .i64 (N : Nat)] w fun e w' => ∃ v, e = .returned (.tuple #[v, .int .i64 0]) ∧ Row .u8 5 w.heap.size w' v (sqB R N (rdF R S f p false N) (rdP p false N)) ∧ Below w.heap.size w w' := by
  have C1 : Hid (∀ W, Calls Tryd.prog 11 #[.int .i64 (N : Nat)] W fun e w' => e = .returned (.bool true) ∧ W = w') := fun W => (isRead_any N W).mono fun e w' ⟨h1, h2⟩ => ⟨by rw [h1, show readB (N : Nat) = true by unfold readB; simp; omega], h2⟩
  have HS := Lib.hid hs
  have HO := Lib.hid ht
  have F1 := spF (P := Tryd.prog) hs
  have a3 := F1.read
  clear hs ht F1
  go_enter Tryd.func8, Tryd.ntmps8
  go_wp2_with fail
  refine (C1.out _).mono ?_
  rintro e w1 ⟨rfl, rfl⟩
  go_wp2_with fail
  refine (clone15_any n R S f p false _ HS.out).mono ?_
  rintro e w2 ⟨B, rfl, hB, hs2, hb2⟩
  have HS2 := Lib.hid hs2
  have HB2 := Lib.hid hb2
  have hnB : 0 ≠ B := by have := HO.out.lt; omega
  clear hs2 hb2
  go_wp2_with fail
  refine (read_any B R S f hf p hR hR2 hS hp false N hN _ HS2.out (HO.out.below HB2.out (Nat.le_refl _)) hnB).mono ?_
  rintro e w3 ⟨v, rfl, hr3, T3⟩
  have HR3 := Lib.hid (hr3.mono HB2.out.size)
  have HB3 : Hid (Below w.heap.size w w3) := Lib.hid ⟨T3.os.trans HB2.out.os, T3.tape.trans HB2.out.tape, T3.output.trans HB2.out.output, Nat.le_trans HB2.out.size T3.size, fun m hm => (T3.block m (Nat.lt_of_lt_of_le hm HB2.out.size) (by omega)).trans (HB2.out.block m hm)⟩
  clear T3 hr3
  go_wp2_with fail
  go_ret2
  exact ⟨v, rfl, HR3.out, HB3.out⟩
theorem sum_bad (ptr : Value) (N : Int) (hN : readB N = false) (w : World) :
    Calls Tryd.prog 8 #[ptr, .int .i64 N] w fun e w' => e = .returned (.tuple #[.slice none 0 0, .int .i64 1]) ∧ w = w' := by
  have C1 : Hid (∀ W, Calls Tryd.prog 11 #[.int .i64 N] W fun e w' => e = .returned (.bool false) ∧ W = w') := fun W => (isRead_any N W).mono fun e w' ⟨h1, h2⟩ => ⟨by rw [h1, hN], h2⟩
  clear hN
  go_enter Tryd.func8, Tryd.ntmps8
  go_wp2_with fail
  refine (C1.out _).mono ?_
  rintro e w1 ⟨rfl, rfl⟩
  go_wp2_with fail
  go_ret2
  exact ⟨rfl, rfl⟩
theorem sum_late (n R S : Nat) (f : Nat → Nat) (p : Nat) (N : Nat) (hN : N ≤ 1048576) (w : World) (hs : Sp w n R S f p true) :
    Calls Tryd.prog 8 #[.pointer (some ⟨n, 0, none⟩), .int .i64 (N : Nat)] w fun e w' => e = .returned (.tuple #[.slice none 0 0, .int .i64 5]) ∧ w = w' := by
  have C1 : Hid (∀ W, Calls Tryd.prog 11 #[.int .i64 (N : Nat)] W fun e w' => e = .returned (.bool true) ∧ W = w') := fun W => (isRead_any N W).mono fun e w' ⟨h1, h2⟩ => ⟨by rw [h1, show readB (N : Nat) = true by unfold readB; simp; omega], h2⟩
  have F1 := spF (P := Tryd.prog) hs
  have a3 := F1.read
  clear hs F1
  go_enter Tryd.func8, Tryd.ntmps8
  go_wp2_with fail
  refine (C1.out _).mono ?_
  rintro e w1 ⟨rfl, rfl⟩
  go_wp2_with fail
  go_ret2
  exact ⟨rfl, rfl⟩
end Go.Proofs.YtknogmianfnfoaaDoor.Sg
