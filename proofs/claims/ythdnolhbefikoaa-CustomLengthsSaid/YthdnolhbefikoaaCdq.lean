/- Layer 16: slices put together; numbers and texts encoded. -/
import Derived.Test.YthdnolhbefikoaaCdp
namespace Go.Proofs.Ythdnolhbefikoaa.Cd
open Go.RowKit
set_option linter.unusedVariables false
set_option linter.unusedSimpArgs false
/-! ### A slice of slices of bytes -/
def Pcs (w : World) (A : Option Addr) (ps : List (List Nat)) : Prop := ∀ i, i < ps.length → ∃ b o Ai ci, A = some ⟨b, o, none⟩ ∧ w.cell? ⟨b, o + i, none⟩ = some (.slice Ai (ps.getD i []).length ci) ∧ Words .u8 w Ai (ps.getD i [])
theorem Pcs.below {w w' : World} {A : Option Addr} {ps : List (List Nat)} (h : Pcs w A ps) (hb : Below w.heap.size w w') : Pcs w' A ps := fun i hi => by
  obtain ⟨b, o, Ai, ci, e, hc, hw⟩ := h i hi
  exact ⟨b, o, Ai, ci, e, (hb.cell (p := ⟨b, o + i, none⟩) (block_lt_of_cell hc)).trans hc, hw.below hb (Nat.le_refl _)⟩
def sN (ps : List (List Nat)) (k : Nat) : Nat := ((ps.take k).flatten).length
theorem take_flat {ps : List (List Nat)} {k : Nat} (h : k < ps.length) : (ps.take (k + 1)).flatten = (ps.take k).flatten ++ ps.getD k [] := by
  rw [List.take_succ_eq_append_getElem h, List.flatten_append, List.getD_eq_getElem?_getD, List.getElem?_eq_getElem h]; simp
theorem sN_zero (ps : List (List Nat)) : sN ps 0 = 0 := by simp [sN]
theorem sN_succ {ps : List (List Nat)} {k : Nat} (h : k < ps.length) : sN ps (k + 1) = sN ps k + (ps.getD k []).length := by
  unfold sN; rw [take_flat h, List.length_append]
theorem sN_le (ps : List (List Nat)) (k : Nat) : sN ps k ≤ ps.flatten.length := by
  have h := congrArg (fun l => (List.flatten l).length) (List.take_append_drop k ps)
  simp only [List.flatten_append, List.length_append] at h
  unfold sN; omega
theorem sN_all (ps : List (List Nat)) : sN ps ps.length = ps.flatten.length := by unfold sN; rw [List.take_length]
set_option maxHeartbeats 2000000 in
theorem concat_any (A : Option Addr) (c : Nat) (ps : List (List Nat)) (hl : ps.length ≤ 100000) (hf : ps.flatten.length ≤ 10000000) (w : World) (hp : Pcs w A ps) :
    Calls Try.prog 20 #[.slice A ps.length c] w (Gives .u8 5 ps.flatten w) := by
  obtain ⟨i0, hi0, hz0, hz1, hz2⟩ := info_parts u8_info2
  have HG := Lib.hid (fun n (hn : n ≤ 10000000) W => grow_any n hn W)
  have hS0 := sN_zero ps
  have HSS := Lib.hid (fun k (h : k < ps.length) => sN_succ h)
  have HSL := Lib.hid (fun k => Nat.le_trans (sN_le ps k) hf)
  have HP := Lib.hid hp
  obtain ⟨N, hN⟩ : ∃ N, N = ps.length := ⟨_, rfl⟩
  have HN := Lib.hid hN
  rw [← hN] at hl HSS ⊢
  clear hN hp hf
  go_enter Try.func20, Try.ntmps20
  go_wp2_with fail
  go_loopg [3, 11] N (fun g' x3 iv wr => ∃ k : Nat, k + g' = N ∧ x3 = .int .i64 (sN ps k : Nat) ∧ iv = .int .i64 (k : Nat) ∧ w = wr)
  case atStart => exact ⟨0, by omega, by rw [hS0]; rfl, rfl, rfl⟩
  case round =>
    obtain ⟨k, hk, rfl, rfl, rfl⟩ := hrel
    by_cases hlt : k < N
    · obtain ⟨g', rfl⟩ : ∃ g', gk = g' + 1 := ⟨gk - 1, by omega⟩
      obtain ⟨b, o, Ai, ci, rfl, hc, hw⟩ := HP.out k (by rw [← HN.out]; exact hlt)
      have h1 := HSS.out k hlt
      have h2 := HSL.out k
      have h3 := HSL.out (k + 1)
      have hd : decide ((k : Int) < (N : Int)) = true := decide_eq_true (by omega)
      generalize (ps.getD k []).length = m at *
      have H1 := Lib.hid h1
      clear hw hS0
      rw [h1] at h3
      clear h1
      generalize sN ps k = s at *
      go_wp2_with fail
      go_roundg g'
      case measure => omega
      case rel => exact ⟨k + 1, by omega, by rw [H1.out]; go_num, by go_num, rfl⟩
    · obtain rfl : k = N := by omega
      have hd : decide ((k : Int) < (k : Int)) = false := by simp
      have h2 := HSL.out k
      have HK := Lib.hid (show sN ps k = ps.flatten.length by rw [HN.out]; exact sN_all ps)
      clear HSS
      have HSS := Lib.hid (fun j (h : j < ps.length) => sN_succ h)
      have HTF := Lib.hid (fun j (h : j < ps.length) => take_flat h)
      rw [← HN.out] at HSS HTF
      go_wp2_with (go_at_call 30; refine (HG.out _ (by exact h2) _).mono ?_; rintro e w1 ⟨v1, rfl, hr1, hb1⟩; have HR := Lib.hid hr1; have HB := Lib.hid hb1; clear hr1 hb1)
      go_wp2_with fail
      clear hd h2 hS0 HG hk
      go_loopg [6, 27] k (fun g' v6 iv wq => ∃ j : Nat, j + g' = k ∧ iv = .int .i64 (j : Nat) ∧ Hid (Row .u8 5 w.heap.size wq v6 (ps.take j).flatten) ∧ Hid (Below w.heap.size w wq))
      case atStart => exact ⟨0, by omega, rfl, by rw [List.take_zero]; exact HR, HB⟩
      case round =>
        obtain ⟨j, hj, rfl, HRj, HBj⟩ := hrel
        by_cases hlt : j < k
        · obtain ⟨g', rfl⟩ : ∃ g', gk = g' + 1 := ⟨gk - 1, by omega⟩
          obtain ⟨b, o, Ai, ci, rfl, hc, hw⟩ := (HP.out.below HBj.out) j (by rw [← HN.out]; exact hlt)
          have h1 := HSS.out j hlt
          have h3 := HSL.out (j + 1)
          have hd : decide ((j : Int) < (k : Int)) = true := decide_eq_true (by omega)
          have HT := Lib.hid (HTF.out j hlt)
          have hzl : (ps.take j).flatten.length + (ps.getD j []).length ≤ 10000000 := by unfold sN at h1 h3; omega
          have hsw := HBj.out.size
          have HW := Lib.hid hw
          generalize ps.getD j [] = ys at *
          generalize (ps.take j).flatten = zs at *
          clear hw h1 h3
          obtain ⟨B6, c6, rfl, -⟩ := HRj.out.words
          go_wp2_with (at_builtin; refine append_anyB rfl _ _ 22 rfl w.heap.size 5 i0 Try.underlying22 hi0 hz0 hz1 hz2 _ zs rfl HRj.out Ai ci ys rfl HW.out hzl hsw ?_; intro v7 w7 h7 hg7; have HB7 := Lib.hid (Row.grown0 HRj.out HBj.out hsw hg7); rw [← HT.out] at h7; have HR7 := Lib.hid h7; clear h7 hg7)
          go_wp2_with fail
          go_roundg g'
          case measure => omega
          case rel => exact ⟨j + 1, by omega, by go_num, HR7, HB7⟩
        · obtain rfl : j = k := by omega
          have hd : decide ((j : Int) < (j : Int)) = false := by simp
          have HF := Lib.hid (show (ps.take j).flatten = ps.flatten by rw [HN.out, List.take_length])
          rw [HF.out] at HRj
          go_wp2_with fail
          go_ret
          exact Gives.mk HRj.out HBj.out
theorem pcs_two {w : World} {A B : Option Addr} {c d : Nat} {xs ys : List Nat} (hx : Words .u8 w A xs) (hy : Words .u8 w B ys) (t : TypeId) :
    Pcs (w.alloc (.cells #[.slice A xs.length c, .slice B ys.length d] t)) (some ⟨w.heap.size, 0, none⟩) [xs, ys] := fun i hi => by
  have hb : Below w.heap.size w (w.alloc (.cells #[.slice A xs.length c, .slice B ys.length d] t)) := (Below.refl _ _).alloc (Nat.le_refl _) _
  rcases i with _ | _ | i
  · refine ⟨w.heap.size, 0, A, c, rfl, ?_, hx.below hb (Nat.le_refl _)⟩
    rw [cell_of_row _ _ _ _ t (0, 0) (heap_alloc_new w _)]; rfl
  · refine ⟨w.heap.size, 0, B, d, rfl, ?_, hy.below hb (Nat.le_refl _)⟩
    rw [cell_of_row _ _ _ _ t (0, 0) (heap_alloc_new w _)]; rfl
  · simp at hi; omega
theorem below_past1 {w w1 w2 : World} {o1 : Obj} (h1 : Below w.heap.size w w1) (h2 : Below (w1.alloc o1).heap.size (w1.alloc o1) w2) : Below w.heap.size w w2 ∧ w.heap.size ≤ (w1.alloc o1).heap.size := by
  have hs := h1.size
  refine ⟨h1.trans (((Below.refl w.heap.size w1).alloc hs o1).trans (h2.mono (by simp; omega))), by simp; omega⟩
theorem below_past {w w1 w2 : World} {o1 o2 : Obj} (h1 : Below w.heap.size w w1) (h2 : Below ((w1.alloc o1).alloc o2).heap.size ((w1.alloc o1).alloc o2) w2) : Below w.heap.size w w2 ∧ w.heap.size ≤ ((w1.alloc o1).alloc o2).heap.size := by
  have hs := h1.size
  refine ⟨h1.trans ((((Below.refl w.heap.size w1).alloc hs o1).alloc (by simp; omega) o2).trans (h2.mono (by simp; omega))), by simp; omega⟩
theorem concat_two (A : Option Addr) (c : Nat) (xs ys : List Nat) (hf : [xs, ys].flatten.length ≤ 10000000) (w : World) (hp : Pcs w A [xs, ys]) :
    Calls Try.prog 20 #[.slice A 2 c] w (Gives .u8 5 [xs, ys].flatten w) := concat_any A c [xs, ys] (by simp) hf w hp
set_option maxHeartbeats 400000 in
theorem left_any (x : Nat) (h : x < 18446744073709551616) (w : World) :
    Calls Try.prog 29 #[.int .u64 (x : Int)] w (Gives .u8 5 (leftN x) w) := by
  have HS := Lib.hid (fun W => shortest_any x h W)
  have h1 := nb_pos x
  have h8 := nb_le x
  have hdl := Lib.hid (dig_length x)
  have hf := Lib.hid (show [[nb x], dig x].flatten = leftN x by simp [leftN])
  have hfl := Lib.hid (show [[nb x], dig x].flatten.length ≤ 10000000 by rw [hf.out, leftN_length]; omega)
  generalize leftN x = L at *
  generalize nb x = n at *
  generalize dig x = ds at *
  go_enter Try.func29, Try.ntmps29
  go_wp2_with fail
  refine (HS.out _).mono ?_
  rintro e w1 ⟨A1, c1, rfl, hw1, hlc, hcm, hb1⟩
  rw [hdl.out] at hlc ⊢
  have HB := Lib.hid hb1
  have hwn := words_new w1 5 .u8 [n] (c := #[.int .u8 (n : Int)]) rfl
  have hw2 := hw1.below ((Below.refl w1.heap.size w1).alloc (Nat.le_refl _) (.cells #[.int .u8 (n : Int)] 5)) (Nat.le_refl _)
  have hp := pcs_two (c := 1) (d := c1) hwn hw2 22
  rw [hdl.out, World.size_alloc, show [n].length = 1 from rfl] at hp
  have HP := Lib.hid hp
  clear hp hw1 hb1 hwn hw2 HS
  go_wp2_with (go_at_call 20; (with_reducible refine (concat_two _ 2 [n] ds hfl.out _ HP.out).mono ?_); rintro e w2 ⟨A2, c2, rfl, hr2, -, hb2⟩; rw [hf.out] at hr2 ⊢; have HR := Lib.hid hr2; have HB2 := Lib.hid (below_past HB.out hb2); clear hr2 hb2)
  go_ret
  exact Gives.mk (HR.out.mono HB2.out.2) HB2.out.1
set_option maxHeartbeats 400000 in
theorem text_any (A : Option Addr) (c : Nat) (xs : List Nat) (hl : xs.length ≤ 100000) (w : World) (hw : Words .u8 w A xs) :
    Calls Try.prog 21 #[.slice A xs.length c] w (Gives .u8 5 (textN xs) w) := by
  have HL := Lib.hid (fun W => left_any (8 * xs.length) (by omega) W)
  have hn8 := nb_le (8 * xs.length)
  have hll := Lib.hid (leftN_length (8 * xs.length))
  have hf := Lib.hid (show [leftN (8 * xs.length), xs].flatten = textN xs by simp [textN])
  have hfl := Lib.hid (show [leftN (8 * xs.length), xs].flatten.length ≤ 10000000 by rw [hf.out, textN_length]; omega)
  have hm : IntKind.u64.wrap ((xs.length : Int) * 8) = ((8 * xs.length : Nat) : Int) := by rw [IntKind.wrap_u64]; omega
  have HW := Lib.hid hw
  generalize leftN (8 * xs.length) = L at *
  generalize textN xs = tx at *
  generalize 8 * xs.length = q at *
  clear hw
  go_enter Try.func21, Try.ntmps21
  go_wp2_with (first | (go_at_call 29; ((refine (HL.out _).mono ?_); rintro e w1 ⟨A1, c1, rfl, hr1, hw1, hb1⟩; have HB := Lib.hid hb1; have hp := pcs_two (c := c1) (d := c) hw1 (HW.out.below hb1 (Nat.le_refl _)) 22; have HP := Lib.hid hp; have HB := Lib.hid hb1; clear hp hr1 hw1 hb1)) | (go_at_call 20; ((with_reducible refine (concat_two _ 2 L xs hfl.out _ HP.out).mono ?_); rintro e w2 ⟨A2, c2, rfl, hr2, -, hb2⟩; rw [hf.out] at hr2 ⊢; have HR := Lib.hid hr2; have HB2 := Lib.hid (below_past1 HB.out hb2); clear hr2 hb2)))
  go_ret
  exact Gives.mk (HR.out.mono HB2.out.2) HB2.out.1
end Go.Proofs.Ythdnolhbefikoaa.Cd
