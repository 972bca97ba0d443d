/- Layer 16's statements: what is told again. -/
import Derived.Test.YtlfpkbiphdcpnaaLawcode
import Derived.Test.YtlfpkbiphdcpnaaCdv
namespace Go.Proofs.Ytlfpkbiphdcpnaa.Cd
open Go.RowKit
set_option linter.unusedVariables false
set_option linter.unusedSimpArgs false
theorem two_cell (w : World) (a b : Array Value) (t t' : TypeId) (i : Nat) : ((w.alloc (.cells a t)).alloc (.cells b t')).cell? ⟨w.heap.size + 1, i, none⟩ = b[i]? := by
  rw [← World.size_alloc w (.cells a t)]
  exact cell_of_row _ _ _ b t' (0, 0) (heap_alloc_new _ _)
section
attribute [local go_sem ↓] loadG storeG
attribute [local go_sem] run_storeG
set_option maxRecDepth 20000 in
set_option maxHeartbeats 4000000 in
theorem codeGets_core (w : World) (A : Option Addr) (c : Nat) (xs ys : List Nat) (hl : xs.length ≤ 400) (n s e : Nat) (G T : Bool) (hw : Words .u8 w A xs)
    (HG : Hid (∀ W, Words .u8 W A xs → Calls Try.prog 10 #[.slice A xs.length c] W fun e' w' => e' = .returned (.tuple #[.int .u64 (n : Nat), .int .i64 (s : Nat), .bool G]) ∧ Below W.heap.size W w'))
    (HT : Hid (∀ W, Words .u8 W A xs → Calls Try.prog 16 #[.slice A xs.length c] W fun e' w' => ∃ B d, e' = .returned (.tuple #[.slice B ys.length d, .int .i64 (e : Nat), .bool T]) ∧ Words .u8 w' B ys ∧ Below W.heap.size W w'))
    (HG2 : Hid (∀ W, Words .u8 W A xs → Calls Try.prog 20 #[.slice A xs.length c] W fun e' w' => e' = .returned (.agg #[.int .u64 (n : Nat), .slice none 0 0, .int .i64 (s : Nat)]) ∧ Below W.heap.size W w'))
    (HT2 : Hid (∀ W, Words .u8 W A xs → Calls Try.prog 21 #[.slice A xs.length c] W fun e' w' => ∃ B d, e' = .returned (.agg #[.int .u64 0, .slice B ys.length d, .int .i64 (e : Nat)]) ∧ Words .u8 w' B ys ∧ Below W.heap.size W w'))
    (HS : Hid (∀ W A c B d, Words .u8 W A ys → Words .u8 W B ys → Calls Try.prog 11 #[.slice A ys.length c, .slice B ys.length d] W fun e w' => e = .returned (.bool true) ∧ Below W.heap.size W w'))
    (hG : decide ((0 : Int) < (s : Int)) = G) (hT : decide ((0 : Int) < (e : Int)) = T) :
    Calls Try.prog 5 #[.slice A xs.length c] w fun e w' => e = .returned (.bool true) ∧ Below w.heap.size w w' := by
  have HK := Lib.hid (fun W => wakes16_any W)
  have HW := Lib.hid hw
  have hd : decide ((400 : Int) < (xs.length : Int)) = false := decide_eq_false (by omega)
  have en : ((n : Int) == (n : Int)) = true := by simp
  have es : ((s : Int) == (s : Int)) = true := by simp
  have ee : ((e : Int) == (e : Int)) = true := by simp
  clear hw
  cases G <;> cases T
  all_goals
    simp only [decide_eq_true_eq, decide_eq_false_iff_not] at hG hT
    go_enter Try.func5, Try.ntmps5
    go_wp2_with (first
      | (go_at_call 8; refine (HK.out _).mono ?_; rintro e' w1 ⟨rfl, hb1⟩; have HB1 := Lib.hid hb1; have HW1 := Lib.hid (HW.out.below hb1 (Nat.le_refl _)); clear hb1)
      | (go_at_call 10; refine (HG.out _ HW1.out).mono ?_; rintro e' w2 ⟨rfl, hb2⟩; have HB2 := Lib.hid (below_next HB1.out hb2); have HW2 := Lib.hid (HW.out.below HB2.out (Nat.le_refl _)); clear hb2)
      | (go_at_call 16; refine (HT.out _ HW2.out).mono ?_; rintro e' w3 ⟨B3, d3, rfl, hw3, hb3⟩; have HB3 := Lib.hid (below_next HB2.out hb3); have HW3 := Lib.hid (HW.out.below HB3.out (Nat.le_refl _)); have HV3 := Lib.hid hw3; clear hb3 hw3)
      | (go_at_call 20; refine (HG2.out _ HW3.out).mono ?_; rintro e' w4 ⟨rfl, hb4⟩; have HB4 := Lib.hid (below_next HB3.out hb4); have HW4 := Lib.hid (HW.out.below HB4.out (Nat.le_refl _)); have HV4 := Lib.hid (HV3.out.below hb4 (Nat.le_refl _)); clear hb4)
      | (go_at_call 21; refine (HT2.out _ HW4.out).mono ?_; rintro e' w5 ⟨B5, d5, rfl, hw5, hb5⟩; have HB5 := Lib.hid (below_next HB4.out hb5); have HV5 := Lib.hid (HV4.out.below hb5 (Nat.le_refl _)); have HY5 := Lib.hid hw5; have hr1 : RowOk ((w5.alloc (.cells #[.int .u64 0, .slice none 0 0, .int .i64 0] 37)).alloc (.cells #[.int .u64 0, .slice none 0 0, .int .i64 0] 37)) w5.heap.size 3 := (RowOk_alloc_past (by simp)).2 ((RowOk_alloc_at rfl).2 rfl); clear hb5 hw5)
      | (go_at_call 11; (refine (HS.out _ B3 d3 B5 d5 (HV5.out.below (((Below.refl w5.heap.size w5).alloc (Nat.le_refl _) _).alloc (by simp) _) (Nat.le_refl _)) (HY5.out.below (((Below.refl w5.heap.size w5).alloc (Nat.le_refl _) _).alloc (by simp) _) (Nat.le_refl _))).mono ?_; rintro e' w6 ⟨rfl, hb6⟩; have HB6 := Lib.hid (((HB5.out.alloc HB5.out.size _).alloc (by have := HB5.out.size; simp; omega) _).trans (hb6.mono (by have := HB5.out.size; simp; omega))); have hc6 : w6.cell? ⟨w5.heap.size + 1, 2, none⟩ = some (.int .i64 (e : Int)) := (hb6.cell (p := ⟨w5.heap.size + 1, 2, none⟩) (by simp)).trans (two_cell _ _ _ _ _ _); clear hb6)))
    go_ret
    refine ⟨?_, HB6.out⟩
    simp <;> omega
set_option maxHeartbeats 1000000 in
theorem codeGets_walk (w : World) (A : Option Addr) (c : Nat) (xs : List Nat) (hx : AllLt 256 xs) (hlc : xs.length ≤ c) (hcm : c ≤ maxLen) (hw : Words .u8 w A xs) :
    Calls Try.prog 5 #[.slice A xs.length c] w fun e w' => e = .returned (.bool true) ∧ Below w.heap.size w w' := by
  by_cases hl : xs.length ≤ 400
  · have h1 := getB_length xs
    have e1 := getS_pos2 xs
    have e2 := getE_pos xs
    exact codeGets_core w A c xs (getB xs) hl (getN xs) (getS xs) (getE xs) (glok xs) (gtok xs) hw (fun W h => getLeft_any A c xs hx hlc hcm (by omega) W h) (fun W h => getText_any A c xs hx hlc hcm (by omega) W h)
      (fun W h => refGetLeft_any A c xs hx hlc hcm (by omega) W h) (fun W h => refGetText_any A c xs hx hlc hcm (by omega) W h)
      (fun W A c B d p q => by have := same_any (getB xs) (getB xs) (getB_lt hx) (getB_lt hx) (by omega) (by omega) W A c B d p q; rwa [sameB_self] at this)
      (by rw [← e1]; exact decide_eq_decide.2 (by omega)) (by rw [← e2]; exact decide_eq_decide.2 (by omega))
  · have hd : decide ((400 : Int) < (xs.length : Int)) = true := decide_eq_true (by omega)
    have HK := Lib.hid (fun W => wakes16_any W)
    clear hw hx
    go_enter Try.func5, Try.ntmps5
    go_wp2_with (go_at_call 8; refine (HK.out _).mono ?_; rintro e w1 ⟨rfl, hb1⟩; have HB1 := Lib.hid hb1; clear hb1)
    go_ret
    exact ⟨rfl, HB1.out⟩
end
end Go.Proofs.Ytlfpkbiphdcpnaa.Cd
