/- Layer 16: the document's own answers: what is told again. -/
import Derived.Test.YtlfpkbiphdcpnaaCdu
import Derived.Shelf.RegionOpenPlain
namespace Go.Proofs.Ytlfpkbiphdcpnaa.Cd
open Go.RowKit
set_option linter.unusedVariables false
set_option linter.unusedSimpArgs false
theorem cell_ret {P : Program} {fn : Func} {T : TypeId} {d : TypeDesc} {Q : Ending → World → Prop} {a : Act} {w : World} {n p k : Nat} {c : Array Value} (hr : fn.results = #[.cell p T]) (hp : a.tmps.getD p undef = .pointer (some ⟨n, 0, none⟩)) (hn : RowOk w n k) (hv : rowAt w n = c)
    (hu : P.underlying T = some d) (hdd : (match d with | .struct _ | .array _ _ => true | _ => false) = true) (hi : (P.info? T).map (·.size) = some k) (hd : a.defers = []) (hQ : Q (.returned (.agg c)) w) : bodyPost P fn Q .ret a w := by
  obtain ⟨t, hg, hs⟩ := hn.heap
  rw [hv] at hg hs
  exact bodyPost_ret (results_cell_row hr _ _ n t _ (0, 0) _ hp hg hu hdd (by rw [hs, hi])) hd hQ
theorem rowAt_setRow_at {w : World} {n k : Nat} {c : Array Value} (h : RowOk w n k) : rowAt (w.setRow n c) n = c := by
  obtain ⟨t, hg, hs⟩ := h.heap
  exact rowAt_of (setRow_heap _ _ _ _ _ _ hg)
theorem cut_both_run (A : Option Addr) (n c l h : Nat) (hl : l ≤ h) (hh : h ≤ c) (w : World) :
    (cutAt 23 (.slice A n c) (some (.int .i64 (l : Nat))) (some (.int .i64 (h : Nat))) none).run Try.prog w = .ok (.slice (cutA A c l) (h - l) (c - l)) w := by
  unfold cutAt Instr.sliceAt cutA
  rw [Sem.run_bind, run_underlying Try.underlying23 w]
  have h1 : (0 : Int) ≤ (h : Int) := by omega
  have h2 : (h : Int) ≤ (c : Int) := by omega
  have h3 : (0 : Int) ≤ (l : Int) := by omega
  have h4 : (l : Int) ≤ (h : Int) := by omega
  simp [Result.andThen, Instr.slice, Sem.run_bind, run_underlying Try.underlying23 w, Instr.sliceBounds, Instr.sliceBound, asIntOf, hl, hh]
theorem loadG (x : Value) : Instr.loadAt 37 x = loadRow 37 x := rfl
theorem storeG (x y : Value) : Instr.storeAt 37 x y = storeRow 37 x y := rfl
theorem run_storeG {w : World} {m : Nat} (n s : Int) (A : Option Addr) (l c : Nat) (hg : RowOk w m 3) :
    (storeRow 37 (.pointer (some ⟨m, 0, none⟩)) (.agg #[.int .u64 n, .slice A l c, .int .i64 s])).run Try.prog w = .ok () (w.setRow m #[.int .u64 n, .slice A l c, .int .i64 s]) := storeAt_row hg (by kernel_rfl) rfl (by simp [OneCells, Value.oneCell'])
section
attribute [local go_sem ↓] cut_hide loadG storeG
attribute [local go_sem] run_storeG
set_option maxRecDepth 20000 in
set_option maxHeartbeats 4000000 in
theorem refGetLeft_any (A : Option Addr) (c : Nat) (xs : List Nat) (hx : AllLt 256 xs) (hlc : xs.length ≤ c) (hcm : c ≤ maxLen) (hl : xs.length ≤ 100000) (w : World) (hw : Words .u8 w A xs) :
    Calls Try.prog 20 #[.slice A xs.length c] w fun e w' => e = .returned (.agg #[.int .u64 (getN xs : Nat), .slice none 0 0, .int .i64 (getS xs : Nat)]) ∧ Below w.heap.size w w' := by
  have HW := Lib.hid hw
  have HB0 : Hid (Below w.heap.size w (w.alloc (.cells #[.int .u64 0, .slice none 0 0, .int .i64 0] 37)) ∧ RowOk (w.alloc (.cells #[.int .u64 0, .slice none 0 0, .int .i64 0] 37)) w.heap.size 3) := ⟨(Below.refl _ _).alloc (Nat.le_refl _) _, (RowOk_alloc_at rfl).2 rfl⟩
  have hmx : Try.prog.follows .mixedOrders = true := by kernel_rfl
  clear hw
  go_enter Try.func20, Try.ntmps20
  go_wp2_with fail
  go_loopg [3] 8 (fun g' v3 wr => ∃ s : Nat, s + g' = 9 ∧ 1 ≤ s ∧ v3 = .int .i64 (s : Nat) ∧ Hid (Below w.heap.size w wr ∧ RowOk wr w.heap.size 3) ∧ Hid (glok xs = true → s ≤ hd xs))
  case atStart => exact ⟨1, by omega, by omega, rfl, HB0, fun h => by have := glok_hd h; have := nb_pos (inN xs); omega⟩
  case round =>
    obtain ⟨s, hs, hs1, rfl, HB, HN⟩ := hrel
    clear HB0
    by_cases hgo : s ≤ 8 ∧ s < xs.length
    · obtain ⟨hs8, hsl⟩ := hgo
      obtain ⟨g', rfl⟩ : ∃ g', gk = g' + 1 := ⟨gk - 1, by omega⟩
      obtain ⟨ds, hds⟩ : ∃ ds, ds = (xs.drop 1).take s := ⟨_, rfl⟩
      have hdl : ds.length = s := by rw [hds, List.length_take, List.length_drop]; omega
      have hdlt : AllLt 256 ds := by rw [hds]; exact (hx.drop _).take _
      have HWr := Lib.hid (HW.out.below HB.out.1 (Nat.le_refl _))
      have HDS := Lib.hid hds
      have hd1 : decide ((s : Int) < (xs.length : Int)) = true := decide_eq_true (by omega)
      go_wp2_with fail
      go_loopg [4, 5] s (fun g2 n i wq => ∃ k : Nat, k + g2 = s ∧ n = .int .u64 (be (ds.take k) : Nat) ∧ i = .int .i64 ((k : Int) + 1) ∧ wr = wq)
      case atStart => exact ⟨0, by omega, rfl, rfl, rfl⟩
      case round =>
        obtain ⟨k, hk, rfl, rfl, rfl⟩ := hrel
        by_cases hlt : k < s
        · obtain ⟨g2, rfl⟩ : ∃ g2, gk = g2 + 1 := ⟨gk - 1, by omega⟩
          obtain ⟨b, o, rfl, hc⟩ := HWr.out (k + 1) (by omega)
          have hy : xs.getD (k + 1) 0 = ds.getD k 0 := by rw [hds, getD_take _ _ _ hlt, getD_drop, Nat.add_comm]
          rw [hy] at hc
          have HE := Lib.hid (be_take ds k (by omega))
          have hlt2 := be_step_lt hdlt (k := k) (by omega) (by omega)
          have hyl := hdlt.at (i := k) (by omega)
          generalize be (ds.take k) = N at *
          generalize ds.getD k 0 = y at *
          clear hy hds
          go_wp2_with fail
          go_roundg g2
          case measure => omega
          case rel => exact ⟨k + 1, by omega, by rw [HE.out]; go_num, by go_num, rfl⟩
        · obtain rfl : k = s := by omega
          have hdt : ds.take k = ds := List.take_of_length_le (by omega)
          have HNL : be ds < 18446744073709551616 := by
            have h1 := be_lt ds hdlt
            rw [hdl] at h1
            exact Nat.lt_of_lt_of_le h1 (Nat.le_trans (Nat.pow_le_pow_right (by omega) hs8) (by omega))
          have htl : (xs.take (k + 1)).length = k + 1 := by rw [List.length_take]; omega
          have HLf := Lib.hid (fun W => refLeft_any (be ds) HNL W)
          have HSm := Lib.hid (fun W A' c' B d h1 h2 => same_any (leftN (be ds)) (xs.take (k + 1)) (leftN_lt _) (hx.take _) (by rw [leftN_length]; have := nb_le (be ds); omega) (by omega) W A' c' B d h1 h2)
          rw [htl] at HSm
          have HWt := Lib.hid (words_takeN (cutA_words (l := 0) HWr.out hlc) (k + 1))
          rw [List.drop_zero] at HWt
          have hcut := fun W => cut_to_run A xs.length c (k + 1) (by omega) W
          rw [show ((k + 1 : Nat) : Int) = (k : Int) + 1 by omega] at hcut
          have HD1 : Hid (sameB (leftN (be ds)) (xs.take (k + 1)) = true → getN xs = be ds ∧ getS xs = k + 1) := fun h => by
            have h1 := of_decide_eq_true h
            obtain ⟨e1, e2, e3⟩ := glok_size hx hs1 hs8 hsl (by rw [← HDS.out]; exact h1)
            unfold getN getS
            rw [if_pos e1, if_pos e1]
            have e4 := glok_hd e1
            exact ⟨by rw [e3, HDS.out], by omega⟩
          have HD2 : Hid (sameB (leftN (be ds)) (xs.take (k + 1)) = false → glok xs = true → k + 1 ≤ hd xs) := fun h hg => by
            have h1 := of_decide_eq_false h
            have h2 := HN.out hg
            rcases Nat.lt_or_ge k (hd xs) with h3 | h3
            · exact h3
            · have h4 : hd xs = k := by omega
              exfalso
              apply h1
              rw [HDS.out, ← h4]
              exact glok_at hg
          have hwp : IntKind.i64.wrap ((k : Int) + 1) = (k : Int) + 1 := by rw [IntKind.wrap_i64]; omega
          rw [hdt]
          generalize sameB (leftN (be ds)) (xs.take (k + 1)) = D at *
          generalize leftN (be ds) = L at *
          generalize be ds = N at *
          clear hdt hds hdl hdlt htl HN
          cases D
          · have HD3 := Lib.hid (HD2.out rfl)
            clear HD1 HD2
            go_wp2_with fail
            go_region_with_o (first
              | (go_at_call 12; (with_reducible refine (HLf.out _).mono ?_); rintro e w3 ⟨A3, c3, rfl, -, hw3, hb3⟩; have hb4 := ((Below.refl wr.heap.size wr).drewN 1).trans (hb3.mono (by simp)); have hw4 := HWt.out.below hb4 (Nat.le_refl _))
              | (go_at_call 11; (with_reducible refine (HSm.out _ _ _ _ _ hw3 hw4).mono ?_); rintro e w5 ⟨rfl, hb5⟩))
            all_goals
              have HB5 := Lib.hid (hb4.trans (hb5.mono hb4.size))
              clear hb4 hb5 hw3 hw4
              have HR5 := Lib.hid (RowOk.below HB.out.2 HB5.out (RowOk.lt HB.out.2))
              go_wp2_with fail
              go_roundg g'
              case measure => omega
              case rel => exact ⟨k + 1, by omega, by omega, by go_num, ⟨HB.out.1.trans (HB5.out.mono HB.out.1.size), HR5.out⟩, HD3.out⟩
          · have HD3 := Lib.hid (HD1.out rfl)
            clear HD1 HD2
            go_wp2_with fail
            go_region_with_o (first
              | (go_at_call 12; (with_reducible refine (HLf.out _).mono ?_); rintro e w3 ⟨A3, c3, rfl, -, hw3, hb3⟩; have hb4 := ((Below.refl wr.heap.size wr).drewN 1).trans (hb3.mono (by simp)); have hw4 := HWt.out.below hb4 (Nat.le_refl _))
              | (go_at_call 11; (with_reducible refine (HSm.out _ _ _ _ _ hw3 hw4).mono ?_); rintro e w5 ⟨rfl, hb5⟩))
            all_goals
              have HB5 := Lib.hid (hb4.trans (hb5.mono hb4.size))
              clear hb4 hb5 hw3 hw4
              have hrk := RowOk.below HB.out.2 HB5.out (RowOk.lt HB.out.2)
              have HB6 := Lib.hid (HB.out.1.trans (HB5.out.mono HB.out.1.size))
              go_wp2_with fail
              refine cell_ret rfl rfl ((RowOk_setRow_at hrk).2 rfl) (rowAt_setRow_at hrk) Try.underlying37 rfl (by kernel_rfl) rfl ⟨?_, below_setRow HB6.out (Nat.le_refl _) _⟩
              rw [HD3.out.1, HD3.out.2]; rfl
    · have hg : glok xs = false := by
        cases hg : glok xs
        · rfl
        · have h1 := HN.out hg
          have h2 := of_decide_eq_true hg
          omega
      have HGN := Lib.hid (getN_no hg)
      have hrk := HB.out.2
      clear HN hg
      by_cases h8 : s ≤ 8
      · have hd1 : decide ((s : Int) < (xs.length : Int)) = false := decide_eq_false (by omega)
        go_wp2_with fail
        refine cell_ret rfl rfl ((RowOk_setRow_at hrk).2 rfl) (rowAt_setRow_at hrk) Try.underlying37 rfl (by kernel_rfl) rfl ⟨?_, below_setRow HB.out.1 (Nat.le_refl _) _⟩
        rw [HGN.out.1, HGN.out.2]; rfl
      · have hd1 : decide ((s : Int) ≤ 8) = false := decide_eq_false (by omega)
        go_wp2_with fail
        refine cell_ret rfl rfl ((RowOk_setRow_at hrk).2 rfl) (rowAt_setRow_at hrk) Try.underlying37 rfl (by kernel_rfl) rfl ⟨?_, below_setRow HB.out.1 (Nat.le_refl _) _⟩
        rw [HGN.out.1, HGN.out.2]; rfl
end
section
attribute [local go_sem ↓] cut_hide loadG storeG
attribute [local go_sem] run_storeG
set_option maxRecDepth 20000 in
set_option maxHeartbeats 4000000 in
theorem refGetText_any (A : Option Addr) (c : Nat) (xs : List Nat) (hx : AllLt 256 xs) (hlc : xs.length ≤ c) (hcm : c ≤ maxLen) (hl : xs.length ≤ 100000) (w : World) (hw : Words .u8 w A xs) :
    Calls Try.prog 21 #[.slice A xs.length c] w fun e w' => ∃ B d, e = .returned (.agg #[.int .u64 0, .slice B (getB xs).length d, .int .i64 (getE xs : Nat)]) ∧ Words .u8 w' B (getB xs) ∧ Below w.heap.size w w' := by
  have hb0 : Below w.heap.size w (w.alloc (.cells #[.int .u64 0, .slice none 0 0, .int .i64 0] 37)) := (Below.refl _ _).alloc (Nat.le_refl _) _
  have hr0 : RowOk (w.alloc (.cells #[.int .u64 0, .slice none 0 0, .int .i64 0] 37)) w.heap.size 3 := (RowOk_alloc_at rfl).2 rfl
  have HG := Lib.hid (refGetLeft_any A c xs hx hlc hcm hl _ (hw.below hb0 (Nat.le_refl _)))
  have HB0 := Lib.hid hb0
  have HR0 := Lib.hid hr0
  have hN := getN_lt hx
  have hS := getS_le xs
  have HW := Lib.hid hw
  have hS9 := getS_le9 xs
  clear hb0 hr0
  cases hok : gtok xs
  · have HE := Lib.hid (gtok_no hok)
    have hno : getS xs = 0 ∨ (getS xs ≠ 0 ∧ getN xs % 8 ≠ 0) ∨ (getS xs ≠ 0 ∧ getN xs % 8 = 0 ∧ xs.length - getS xs < getN xs / 8) := by
      unfold gtok at hok
      by_cases h0 : getS xs = 0
      · exact .inl h0
      · have : glok xs = true := by
          cases h : glok xs
          · exact absurd (getN_no h).2 h0
          · rfl
        rw [this, Bool.true_and] at hok
        have := of_decide_eq_false hok
        by_cases h8 : getN xs % 8 = 0
        · exact .inr (.inr ⟨h0, h8, by omega⟩)
        · exact .inr (.inl ⟨h0, h8⟩)
    have HFIN : Hid (∀ w3 : World, Below w.heap.size w w3 → ∃ B d, Ending.returned (.agg #[.int .u64 0, .slice none 0 0, .int .i64 0]) = .returned (.agg #[.int .u64 0, .slice B (getB xs).length d, .int .i64 (getE xs : Nat)]) ∧ Words .u8 w3 B (getB xs) ∧ Below w.heap.size w w3) := fun w3 hb => by
      rw [HE.out.1, HE.out.2]
      exact ⟨none, 0, rfl, fun i hi => by simp at hi, hb⟩
    clear hok hw hx
    generalize getN xs = n at *
    generalize getS xs = s at *
    rcases hno with rfl | ⟨h0, h8⟩ | ⟨h0, h8, h9⟩
    · have hz := 0
      go_enter Try.func21, Try.ntmps21
      go_wp2_with (go_at_call 20; refine HG.out.mono ?_; rintro e w1 ⟨rfl, hb1⟩; have HB1 := Lib.hid (HB0.out.trans (hb1.mono HB0.out.size)); have HR1 := Lib.hid (RowOk.below HR0.out hb1 (RowOk.lt HR0.out)); have hr : RowOk (w1.alloc (.cells #[.int .u64 0, .slice none 0 0, .int .i64 0] 37)) w1.heap.size 3 := (RowOk_alloc_at rfl).2 rfl; have hr2 : ∀ c t, RowOk (w1.alloc (.cells c t)) w.heap.size 3 := (fun c t => (RowOk_alloc_past (RowOk.lt HR1.out)).2 HR1.out); have hne : w.heap.size ≠ w1.heap.size := Nat.ne_of_lt (RowOk.lt HR1.out); have hne2 : w1.heap.size ≠ w.heap.size := (Nat.ne_of_lt (RowOk.lt HR1.out)).symm; clear hb1)
      have hR : RowOk (w1.setRow w.heap.size #[.int .u64 0, .slice none 0 0, .int .i64 0]) w.heap.size 3 := (RowOk_setRow_at HR1.out).2 rfl
      have hA : rowAt (w1.setRow w.heap.size #[.int .u64 0, .slice none 0 0, .int .i64 0]) w.heap.size = #[.int .u64 0, .slice none 0 0, .int .i64 0] := rowAt_setRow_at HR1.out
      have hB := below_setRow HB1.out (Nat.le_refl _) #[.int .u64 0, .slice none 0 0, .int .i64 0]
      refine cell_ret rfl rfl ((RowOk_alloc_past (RowOk.lt hR)).2 hR) ((rowAt_alloc_past (RowOk.lt hR)).trans hA) Try.underlying37 rfl (by kernel_rfl) rfl ?_
      obtain ⟨B, d, e1, e2, e3⟩ := HFIN.out _ (hB.alloc hB.size _)
      first | exact ⟨B, d, e1, e2, e3⟩ | exact ⟨B, ⟨d, e1⟩, e2, e3⟩
    · have h8i : ((n : Int) % 8 != 0) = true := by rw [bne_iff_ne]; omega
      have h0i : ((s : Int) == 0) = false := by rw [beq_eq_false_iff_ne]; omega
      go_enter Try.func21, Try.ntmps21
      go_wp2_with (go_at_call 20; refine HG.out.mono ?_; rintro e w1 ⟨rfl, hb1⟩; have HB1 := Lib.hid (HB0.out.trans (hb1.mono HB0.out.size)); have HR1 := Lib.hid (RowOk.below HR0.out hb1 (RowOk.lt HR0.out)); have hr : RowOk (w1.alloc (.cells #[.int .u64 0, .slice none 0 0, .int .i64 0] 37)) w1.heap.size 3 := (RowOk_alloc_at rfl).2 rfl; have hr2 : ∀ c t, RowOk (w1.alloc (.cells c t)) w.heap.size 3 := (fun c t => (RowOk_alloc_past (RowOk.lt HR1.out)).2 HR1.out); have hne : w.heap.size ≠ w1.heap.size := Nat.ne_of_lt (RowOk.lt HR1.out); have hne2 : w1.heap.size ≠ w.heap.size := (Nat.ne_of_lt (RowOk.lt HR1.out)).symm; clear hb1)
      have hR : RowOk (w1.setRow w.heap.size #[.int .u64 0, .slice none 0 0, .int .i64 0]) w.heap.size 3 := (RowOk_setRow_at HR1.out).2 rfl
      have hA : rowAt (w1.setRow w.heap.size #[.int .u64 0, .slice none 0 0, .int .i64 0]) w.heap.size = #[.int .u64 0, .slice none 0 0, .int .i64 0] := rowAt_setRow_at HR1.out
      have hB := below_setRow HB1.out (Nat.le_refl _) #[.int .u64 0, .slice none 0 0, .int .i64 0]
      refine cell_ret rfl rfl ((RowOk_alloc_past (RowOk.lt hR)).2 hR) ((rowAt_alloc_past (RowOk.lt hR)).trans hA) Try.underlying37 rfl (by kernel_rfl) rfl ?_
      obtain ⟨B, d, e1, e2, e3⟩ := HFIN.out _ (hB.alloc hB.size _)
      first | exact ⟨B, d, e1, e2, e3⟩ | exact ⟨B, ⟨d, e1⟩, e2, e3⟩
    · have h8i : ((n : Int) % 8 != 0) = false := by rw [bne_eq_false_iff_eq]; omega
      have h0i : ((s : Int) == 0) = false := by rw [beq_eq_false_iff_ne]; omega
      have h10 : (xs.length : Int) - (s : Int) < (n : Int) / 8 := by omega
      go_enter Try.func21, Try.ntmps21
      go_wp2_with (go_at_call 20; refine HG.out.mono ?_; rintro e w1 ⟨rfl, hb1⟩; have HB1 := Lib.hid (HB0.out.trans (hb1.mono HB0.out.size)); have HR1 := Lib.hid (RowOk.below HR0.out hb1 (RowOk.lt HR0.out)); have hr : RowOk (w1.alloc (.cells #[.int .u64 0, .slice none 0 0, .int .i64 0] 37)) w1.heap.size 3 := (RowOk_alloc_at rfl).2 rfl; have hr2 : ∀ c t, RowOk (w1.alloc (.cells c t)) w.heap.size 3 := (fun c t => (RowOk_alloc_past (RowOk.lt HR1.out)).2 HR1.out); have hne : w.heap.size ≠ w1.heap.size := Nat.ne_of_lt (RowOk.lt HR1.out); have hne2 : w1.heap.size ≠ w.heap.size := (Nat.ne_of_lt (RowOk.lt HR1.out)).symm; clear hb1)
      have hR : RowOk (w1.setRow w.heap.size #[.int .u64 0, .slice none 0 0, .int .i64 0]) w.heap.size 3 := (RowOk_setRow_at HR1.out).2 rfl
      have hA : rowAt (w1.setRow w.heap.size #[.int .u64 0, .slice none 0 0, .int .i64 0]) w.heap.size = #[.int .u64 0, .slice none 0 0, .int .i64 0] := rowAt_setRow_at HR1.out
      have hB := below_setRow HB1.out (Nat.le_refl _) #[.int .u64 0, .slice none 0 0, .int .i64 0]
      refine cell_ret rfl rfl ((RowOk_alloc_past (RowOk.lt hR)).2 hR) ((rowAt_alloc_past (RowOk.lt hR)).trans hA) Try.underlying37 rfl (by kernel_rfl) rfl ?_
      obtain ⟨B, d, e1, e2, e3⟩ := HFIN.out _ (hB.alloc hB.size _)
      first | exact ⟨B, d, e1, e2, e3⟩ | exact ⟨B, ⟨d, e1⟩, e2, e3⟩
  · have HE := Lib.hid (gtok_yes hok)
    unfold gtok at hok
    obtain ⟨hG, hq⟩ := Bool.and_eq_true_iff.1 hok
    have hq2 := of_decide_eq_true hq
    have h0 : getS xs ≠ 0 := by have : getS xs = nb (inN xs) + 1 := (by unfold getS; rw [if_pos hG]); omega
    obtain ⟨m, hm⟩ : ∃ m, m = getN xs / 8 := ⟨_, rfl⟩
    have hcl : ((xs.drop (getS xs)).take m).length = m := by rw [List.length_take, List.length_drop]; omega
    have HWC := Lib.hid (words_takeN (cutA_words (l := getS xs) hw hlc) m)
    have HFIN : Hid (∀ w3 : World, Below w.heap.size w w3 → ∃ B d, Ending.returned (.agg #[.int .u64 0, .slice (cutA A c (getS xs)) m (c - getS xs), .int .i64 ((getS xs : Int) + (m : Int))]) = .returned (.agg #[.int .u64 0, .slice B (getB xs).length d, .int .i64 (getE xs : Nat)]) ∧ Words .u8 w3 B (getB xs) ∧ Below w.heap.size w w3) := fun w3 hb => by
      rw [HE.out.1, HE.out.2, ← hm, hcl]
      exact ⟨_, _, rfl, HWC.out.below hb (Nat.le_refl _), hb⟩
    have hcut := fun W => cut_both_run A xs.length c (getS xs) (getS xs + m) (by omega) (by omega) W
    rw [show getS xs + m - getS xs = m by omega, show ((getS xs + m : Nat) : Int) = (getS xs : Int) + (m : Int) by omega] at hcut
    have h8i : ((getN xs : Int) % 8 != 0) = false := by rw [bne_eq_false_iff_eq]; omega
    have hmi : (getN xs : Int) / 8 = (m : Int) := by omega
    have h0i : ((getS xs : Int) == 0) = false := by rw [beq_eq_false_iff_ne]; omega
    have h10 : decide ((xs.length : Int) - (getS xs : Int) < (m : Int)) = false := decide_eq_false (by omega)
    have hwp : IntKind.i64.wrap ((getS xs : Int) + (m : Int)) = (getS xs : Int) + (m : Int) := by rw [IntKind.wrap_i64]; omega
    have hm2 : m ≤ 100000 := by omega
    clear hok hw hx hq hq2 hG hm hcl
    generalize getN xs = n at *
    generalize getS xs = s at *
    go_enter Try.func21, Try.ntmps21
    go_wp2_with (go_at_call 20; refine HG.out.mono ?_; rintro e w1 ⟨rfl, hb1⟩; have HB1 := Lib.hid (HB0.out.trans (hb1.mono HB0.out.size)); have HR1 := Lib.hid (RowOk.below HR0.out hb1 (RowOk.lt HR0.out)); have hr : RowOk (w1.alloc (.cells #[.int .u64 0, .slice none 0 0, .int .i64 0] 37)) w1.heap.size 3 := (RowOk_alloc_at rfl).2 rfl; have hr2 : ∀ c t, RowOk (w1.alloc (.cells c t)) w.heap.size 3 := (fun c t => (RowOk_alloc_past (RowOk.lt HR1.out)).2 HR1.out); have hne : w.heap.size ≠ w1.heap.size := Nat.ne_of_lt (RowOk.lt HR1.out); have hne2 : w1.heap.size ≠ w.heap.size := (Nat.ne_of_lt (RowOk.lt HR1.out)).symm; clear hb1)
    have hq1 : (w1.alloc (.cells #[.int .u64 (n : Int), .slice none 0 0, .int .i64 (s : Int)] 37)).cell? ⟨w1.heap.size, 2, none⟩ = some (.int .i64 (s : Int)) := by rw [cell_of_row _ _ _ _ _ (0, 0) (heap_alloc_new w1 _)]; rfl
    have hq2 := hr2 #[.int .u64 (n : Int), .slice none 0 0, .int .i64 (s : Int)] 37
    have HB2 := Lib.hid (HB1.out.alloc HB1.out.size (.cells #[.int .u64 (n : Int), .slice none 0 0, .int .i64 (s : Int)] 37))
    generalize w1.alloc (.cells #[.int .u64 (n : Int), .slice none 0 0, .int .i64 (s : Int)] 37) = w2 at *
    have hq3 : RowOk w2.drew w.heap.size 3 := hq2
    clear hr hr2 HR1
    go_region
    go_wp2
    have hR : RowOk (w2.setRow w.heap.size #[.int .u64 0, .slice (cutA A c s) m (c - s), .int .i64 ((s : Int) + (m : Int))]) w.heap.size 3 := (RowOk_setRow_at hq2).2 rfl
    have hA : rowAt (w2.setRow w.heap.size #[.int .u64 0, .slice (cutA A c s) m (c - s), .int .i64 ((s : Int) + (m : Int))]) w.heap.size = #[.int .u64 0, .slice (cutA A c s) m (c - s), .int .i64 ((s : Int) + (m : Int))] := rowAt_setRow_at hq2
    have hB := below_setRow HB2.out (Nat.le_refl _) #[.int .u64 0, .slice (cutA A c s) m (c - s), .int .i64 ((s : Int) + (m : Int))]
    refine cell_ret (n := w.heap.size) (k := 3) rfl rfl (show RowOk (World.drew _) _ _ from hR) (show rowAt (World.drew _) _ = _ from hA) Try.underlying37 rfl (by kernel_rfl) rfl ?_
    obtain ⟨B, d, e1, e2, e3⟩ := HFIN.out _ (hB.drewN 1)
    exact ⟨B, d, e1, e2, e3⟩
end
end Go.Proofs.Ytlfpkbiphdcpnaa.Cd
