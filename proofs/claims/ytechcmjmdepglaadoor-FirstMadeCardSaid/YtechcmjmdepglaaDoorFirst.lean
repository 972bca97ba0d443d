/- Layer 6: the first values. -/
import Derived.Test.YtechcmjmdepglaaDoorTable
import Derived.Test.YtechcmjmdepglaaDoorPrimes
import Derived.Test.YtechcmjmdepglaaDoorBund
import Derived.Deep.RegionHeld3
import Derived.Shelf.RegionOpenPlain
import Derived.Deep.CutRange
namespace Go.Proofs.YtechcmjmdepglaaDoor
open Go.RowKit
set_option linter.unusedVariables false
set_option linter.unusedSimpArgs false
theorem load8w (x : Value) : Instr.loadAt 24 x = loadRow 24 x := rfl
theorem store8w (x y : Value) : Instr.storeAt 24 x y = storeRow 24 x y := rfl
theorem run_load8w {w : World} {n : Nat} (hg : RowOk w n 8) : (loadRow 24 (.pointer (some ⟨n, 0, none⟩))).run Tryd.prog w = .ok (.agg (rowAt w n)) w :=
  loadAt_row hg Tryd.underlying24 rfl (by kernel_rfl)
theorem run_store8w {w : World} {n : Nat} {c' : Array Value} (hg : RowOk w n 8) (hs' : c'.size = 8) (h1 : OneCells c') :
    (storeRow 24 (.pointer (some ⟨n, 0, none⟩)) (.agg c')).run Tryd.prog w = .ok () (w.setRow n c') := storeAt_row hg (by kernel_rfl) hs' h1
theorem zero8w (w : World) : (zeroValue 24).run Tryd.prog w = .ok (.agg (uTab 8 fun _ => 0)) w := by kernel_rfl
attribute [go_sem ↓] load8w store8w zero8w
attribute [go_sem] run_load8w run_store8w
def keepB (b : Int) (x : Nat) : Nat := if b = 224 then x % 4294967296 else if b = 256 then x / 4294967296 else x
theorem keepB_lt (b : Int) {x : Nat} (h : x < 18446744073709551616) : keepB b x < 18446744073709551616 := by
  unfold keepB
  split
  · omega
  · split
    · omega
    · exact h
def fromB (b : Int) : Nat := if b = 224 ∨ b = 384 then 8 else 0
theorem firstN_keep {b : Int} (h : hasB b = true) (i : Nat) : firstN b i = keepB b (sN (fromB b + i)) := by
  simp only [hasB, Bool.or_eq_true, beq_iff_eq] at h
  rcases h with ((rfl | rfl) | rfl) | rfl
  · rfl
  · simp [firstN, keepB, fromB]
  · rfl
  · simp [firstN, keepB, fromB]
theorem firstN_none {b : Int} (h : hasB b = false) (i : Nat) : firstN b i = 0 := by
  simp only [hasB, Bool.or_eq_false_iff, beq_eq_false_iff_ne] at h
  obtain ⟨⟨⟨h1, h2⟩, h3⟩, h4⟩ := h
  unfold firstN
  rw [if_neg h1, if_neg h2, if_neg h3, if_neg h4]
theorem lower_any (x : Nat) (hx : x < 18446744073709551616) (w : World) : Calls Tryd.prog 39 #[.int .u64 (x : Int)] w fun e w' => e = .returned (.int .u64 (x % 4294967296 : Nat)) ∧ w = w' := by
  have e0 : bits .and .u64 (x : Int) 4294967295 = (x : Int) % 4294967296 := by
    rw [show (4294967295 : Int) = ((4294967295 : Nat) : Int) from rfl, u64_and_nat x 4294967295 hx (by omega), Nat.and_two_pow_sub_one_eq_mod x 32]
    omega
  go_enter Tryd.func39, Tryd.ntmps39
  go_wp2
  go_ret
  exact ⟨ret_int (by omega), rfl⟩
theorem whole1_any (x : Nat) (w : World) : Calls Tryd.prog 38 #[.int .u64 (x : Int)] w fun e w' => e = .returned (.int .u64 (x : Nat)) ∧ w = w' := by
  go_enter Tryd.func38, Tryd.ntmps38
  go_wp2
  go_ret
  exact ⟨rfl, rfl⟩
def keepV (b : Int) : Value := if b = 224 then .func (.func 39) #[] #[] else if b = 256 then .func (.func 40) #[] #[] else .func (.func 38) #[] #[]
def kindV (b : Int) : Value := if hasB b then .tuple #[.int .i64 (fromB b : Nat), keepV b, .bool true] else .tuple #[.int .i64 0, .nilFunc, .bool false]
set_option maxHeartbeats 1000000 in
theorem kind_any (b : Int) (w : World) : Calls Tryd.prog 23 #[.int .i64 b] w fun e w' => e = .returned (kindV b) ∧ w = w' := by
  by_cases h1 : b = 224
  · subst h1
    go_enter Tryd.func23, Tryd.ntmps23
    go_wp2
    go_ret3
    exact ⟨rfl, rfl⟩
  by_cases h2 : b = 384
  · subst h2
    go_enter Tryd.func23, Tryd.ntmps23
    go_wp2
    go_ret3
    exact ⟨rfl, rfl⟩
  by_cases h3 : b = 256
  · subst h3
    go_enter Tryd.func23, Tryd.ntmps23
    go_wp2
    go_ret3
    exact ⟨rfl, rfl⟩
  by_cases h4 : b = 512
  · subst h4
    go_enter Tryd.func23, Tryd.ntmps23
    go_wp2
    go_ret3
    exact ⟨rfl, rfl⟩
  have e1 : (b == 224) = false := beq_eq_false_iff_ne.2 h1
  have e2 : (b == 384) = false := beq_eq_false_iff_ne.2 h2
  have e3 : (b == 256) = false := beq_eq_false_iff_ne.2 h3
  have e4 : (b == 512) = false := beq_eq_false_iff_ne.2 h4
  have HV : Hid (kindV b = .tuple #[.int .i64 0, .nilFunc, .bool false]) := if_neg (by rw [show hasB b = false by unfold hasB; rw [e1, e2, e3, e4]; rfl]; simp)
  clear h1 h2 h3 h4
  go_enter Tryd.func23, Tryd.ntmps23
  go_wp2
  go_ret3
  exact ⟨by rw [HV.out]; rfl, rfl⟩
theorem has_any (b : Int) (w : World) : Calls Tryd.prog 37 #[.int .i64 b] w fun e w' => e = .returned (.bool (hasB b)) ∧ w = w' := by
  have HK := Lib.hid (kind_any b w)
  cases hb : hasB b with
  | true =>
    have hv : kindV b = .tuple #[.int .i64 (fromB b : Nat), keepV b, .bool true] := if_pos hb
    rw [hv] at HK
    clear hv hb
    generalize keepV b = F at *
    generalize fromB b = fr at *
    go_enter Tryd.func37, Tryd.ntmps37
    go_wp2_with fail
    refine HK.out.mono ?_
    rintro e w1 ⟨rfl, rfl⟩
    go_wp2
    go_ret
    exact ⟨rfl, rfl⟩
  | false =>
    have hv : kindV b = .tuple #[.int .i64 0, .nilFunc, .bool false] := if_neg (by rw [hb]; simp)
    rw [hv] at HK
    clear hv hb
    go_enter Tryd.func37, Tryd.ntmps37
    go_wp2_with fail
    refine HK.out.mono ?_
    rintro e w1 ⟨rfl, rfl⟩
    go_wp2
    go_ret
    exact ⟨rfl, rfl⟩
theorem cell_call {W W' : World} {a : Addr} {v : Value} {s : Nat} {w : World} (hb : Below W.heap.size W W') (h : W.cell? a = some v ∧ s ≤ W.heap.size ∧ Below s w W) : W'.cell? a = some v ∧ s ≤ W'.heap.size ∧ Below s w W' :=
  ⟨(hb.cell (block_lt_of_cell h.1)).trans h.1, Nat.le_trans h.2.1 hb.size, h.2.2.trans (hb.mono h.2.1)⟩
set_option maxHeartbeats 2000000 in
theorem tell_any (b : Int) (i : Nat) (hi : i < 16) (g : Nat) (w : World) (hc : w.cell? ⟨g, 0, none⟩ = some (keepV b)) :
    Calls Tryd.prog 25 #[.int .u64 (pN i : Nat), .pointer (some ⟨g, 0, none⟩)] w fun e w' => e = .returned (.int .u64 (keepB b (sN i) : Nat)) ∧ Below w.heap.size w w' := by
  have HS := Lib.hid (fun W => square_is (pN i) (sR i) (pN_small i (by omega)) (sR_is i hi) W)
  rw [dg_sR] at HS
  have hx := sN_lt i
  have hS : w.cell? ⟨g, 0, none⟩ = some (keepV b) ∧ w.heap.size ≤ w.heap.size ∧ Below w.heap.size w w := ⟨hc, Nat.le_refl _, Below.refl _ _⟩
  have hbc : ∃ bc, w.heap.size = bc := ⟨_, rfl⟩
  clear hc
  generalize sN i = x at *
  generalize pN i = p at *
  obtain ⟨bc, hbc⟩ := hbc
  rw [hbc] at hS ⊢
  have hsz : bc ≤ w.heap.size := Nat.le_of_eq hbc.symm
  by_cases h1 : b = 224
  · subst h1
    rw [show keepB 224 x = x % 4294967296 from rfl]
    rw [show keepV 224 = .func (.func 39) #[] #[] from rfl] at hS
    have hS1 : w.drew.cell? ⟨g, 0, none⟩ = some (.func (.func 39) #[] #[]) ∧ bc ≤ w.drew.heap.size ∧ Below bc w w.drew := ⟨hS.1, hsz, hS.2.2.drewN 1⟩
    have HL := Lib.hid (fun W => lower_any x hx W)
    clear hsz
    go_enter Tryd.func25, Tryd.ntmps25
    go_wp2_with fail
    go_region_held3 (fun W => W.cell? ⟨g, 0, none⟩ = some (.func (.func 39) #[] #[]) ∧ bc ≤ W.heap.size ∧ Below bc w W)
      (first | exact hS1 | assumption | exact cell_call hq1 (by assumption))
      (first
        | (go_at_call 26; (with_reducible refine (HS.out _).mono ?_); rintro e u1 ⟨rfl, hq1⟩)
        | (go_at_call 39; (with_reducible refine (HL.out _).mono ?_); rintro e u2 ⟨rfl, rfl⟩))
    rename_i hEnd
    have HE := Lib.hid hEnd.2.2
    clear hEnd
    go_wp2
    go_ret
    exact ⟨ret_int (by omega), HE.out⟩
  by_cases h2 : b = 256
  · subst h2
    rw [show keepB 256 x = x / 4294967296 from rfl]
    rw [show keepV 256 = .func (.func 40) #[] #[] from rfl] at hS
    have hS1 : w.drew.cell? ⟨g, 0, none⟩ = some (.func (.func 40) #[] #[]) ∧ bc ≤ w.drew.heap.size ∧ Below bc w w.drew := ⟨hS.1, hsz, hS.2.2.drewN 1⟩
    have HL := Lib.hid (fun W => upper_any x hx W)
    clear hsz
    go_enter Tryd.func25, Tryd.ntmps25
    go_wp2_with fail
    go_region_held3 (fun W => W.cell? ⟨g, 0, none⟩ = some (.func (.func 40) #[] #[]) ∧ bc ≤ W.heap.size ∧ Below bc w W)
      (first | exact hS1 | assumption | exact cell_call hq1 (by assumption))
      (first
        | (go_at_call 26; (with_reducible refine (HS.out _).mono ?_); rintro e u1 ⟨rfl, hq1⟩)
        | (go_at_call 40; (with_reducible refine (HL.out _).mono ?_); rintro e u2 ⟨rfl, rfl⟩))
    rename_i hEnd
    have HE := Lib.hid hEnd.2.2
    clear hEnd
    go_wp2
    go_ret
    exact ⟨ret_int (by omega), HE.out⟩
  rw [show keepB b x = x by unfold keepB; rw [if_neg h1, if_neg h2]]
  rw [show keepV b = .func (.func 38) #[] #[] by unfold keepV; rw [if_neg h1, if_neg h2]] at hS
  have hS1 : w.drew.cell? ⟨g, 0, none⟩ = some (.func (.func 38) #[] #[]) ∧ bc ≤ w.drew.heap.size ∧ Below bc w w.drew := ⟨hS.1, hsz, hS.2.2.drewN 1⟩
  have HL := Lib.hid (fun W => whole1_any x W)
  clear hsz
  go_enter Tryd.func25, Tryd.ntmps25
  go_wp2_with fail
  go_region_held3 (fun W => W.cell? ⟨g, 0, none⟩ = some (.func (.func 38) #[] #[]) ∧ bc ≤ W.heap.size ∧ Below bc w W)
    (first | exact hS1 | assumption | exact cell_call hq1 (by assumption))
    (first
      | (go_at_call 26; (with_reducible refine (HS.out _).mono ?_); rintro e u1 ⟨rfl, hq1⟩)
      | (go_at_call 38; (with_reducible refine (HL.out _).mono ?_); rintro e u2 ⟨rfl, rfl⟩))
  rename_i hEnd
  have HE := Lib.hid hEnd.2.2
  clear hEnd
  go_wp2
  go_ret
  exact ⟨ret_int (by omega), HE.out⟩
end Go.Proofs.YtechcmjmdepglaaDoor
