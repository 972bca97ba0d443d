/- Layer 16's statements: lists of texts. -/
import Derived.Test.YtlfpkbiphdcpnaaLawcode
namespace Go.Proofs.Ytlfpkbiphdcpnaa.Cd
open Go.RowKit
set_option linter.unusedVariables false
set_option linter.unusedSimpArgs false
def tx (la : List (List Nat)) (k : Nat) : List Nat := ((la.take k).map textN).flatten
theorem tx_zero (la : List (List Nat)) : tx la 0 = [] := by simp [tx]
theorem tx_succ {la : List (List Nat)} {k : Nat} (h : k < la.length) : tx la (k + 1) = tx la k ++ textN (la.getD k []) := by
  unfold tx
  rw [List.take_succ_eq_append_getElem h, List.map_append, List.flatten_append, List.getD_eq_getElem?_getD, List.getElem?_eq_getElem h]; simp
theorem tx_all (la : List (List Nat)) : tx la la.length = (la.map textN).flatten := by unfold tx; rw [List.take_length]
def fit (la : List (List Nat)) (k : Nat) : Prop := ∀ i, i < k → (la.getD i []).length ≤ 300
theorem fit_succ {la : List (List Nat)} {k : Nat} (h : fit la k) (h1 : (la.getD k []).length ≤ 300) : fit la (k + 1) := fun i hi => by
  rcases Nat.lt_or_ge i k with h2 | h2
  · exact h i h2
  · rw [show i = k by omega]; exact h1
theorem textN_300 {xs : List Nat} (h : xs.length ≤ 300) : (textN xs).length ≤ 309 := by rw [textN_length]; have := nb_le (8 * xs.length); omega
theorem tx_length {la : List (List Nat)} : ∀ {k : Nat}, k ≤ la.length → fit la k → (tx la k).length ≤ k * 309
  | 0, _, _ => by rw [tx_zero]; simp
  | k + 1, hk, hf => by
    have h1 := tx_length (k := k) (by omega) (fun i hi => hf i (by omega))
    have h2 := textN_300 (hf k (by omega))
    rw [tx_succ (by omega), List.length_append]; omega
theorem tx_lt {la : List (List Nat)} (h : ∀ p ∈ la, AllLt 256 p) (k : Nat) : AllLt 256 (tx la k) := fun y hy => by
  unfold tx at hy
  obtain ⟨l, h1, h2⟩ := List.mem_flatten.1 hy
  obtain ⟨p, h3, rfl⟩ := List.mem_map.1 h1
  exact textN_lt (h p (List.mem_of_mem_take h3)) y h2
def sm (la lb : List (List Nat)) : Nat → Bool
  | 0 => decide (la.length = lb.length)
  | k + 1 => sm la lb k && (decide (k < lb.length) && sameB (la.getD k []) (lb.getD k []))
theorem sm_true {la lb : List (List Nat)} : ∀ {k : Nat}, sm la lb k = true → la.length = lb.length ∧ ∀ i, i < k → la.getD i [] = lb.getD i []
  | 0, h => ⟨of_decide_eq_true h, fun i hi => by omega⟩
  | k + 1, h => by
    obtain ⟨h1, h2⟩ := Bool.and_eq_true_iff.1 h
    obtain ⟨e1, e2⟩ := sm_true h1
    refine ⟨e1, fun i hi => ?_⟩
    rcases Nat.lt_or_ge i k with h3 | h3
    · exact e2 i h3
    · rw [show i = k by omega]; exact of_decide_eq_true (Bool.and_eq_true_iff.1 h2).2
theorem sm_self (la : List (List Nat)) : ∀ k, k ≤ la.length → sm la la k = true
  | 0, _ => decide_eq_true rfl
  | k + 1, h => by
    show (sm la la k && (decide (k < la.length) && sameB (la.getD k []) (la.getD k []))) = true
    rw [sm_self la k (by omega), sameB_self, decide_eq_true (show k < la.length from h)]; rfl
theorem sm_all (la lb : List (List Nat)) : sm la lb la.length = decide (la = lb) := by
  by_cases h : la = lb
  · subst h; rw [sm_self la _ (Nat.le_refl _), decide_eq_true rfl]
  · rw [decide_eq_false h]
    cases hs : sm la lb la.length
    · rfl
    · obtain ⟨e1, e2⟩ := sm_true hs
      exfalso
      apply h
      apply List.ext_getElem e1
      intro i h1 h2
      have := e2 i h1
      rw [List.getD_eq_getElem?_getD, List.getD_eq_getElem?_getD, List.getElem?_eq_getElem h1, List.getElem?_eq_getElem h2] at this
      exact this
theorem tx_same {la lb : List (List Nat)} (ha : fit la la.length) (hb : fit lb lb.length) : sameB (tx la la.length) (tx lb lb.length) = sm la lb la.length := by
  rw [sm_all, tx_all, tx_all]
  have mem : ∀ {l : List (List Nat)}, fit l l.length → ∀ x ∈ l, x.length ≤ 1000000 := fun {l} h x hx => by
    obtain ⟨i, hi, rfl⟩ := List.getElem_of_mem hx
    have := h i hi
    rw [List.getD_eq_getElem?_getD, List.getElem?_eq_getElem hi] at this
    exact Nat.le_trans this (by omega)
  unfold sameB
  exact decide_eq_decide.2 ⟨fun h => texts_inj la lb (mem ha) (mem hb) h, fun h => by rw [h]⟩
set_option maxRecDepth 20000 in
set_option maxHeartbeats 4000000 in
theorem codeApart_core (w : World) (A : Option Addr) (c : Nat) (la : List (List Nat)) (hla : ∀ p ∈ la, AllLt 256 p) (hma : ∀ p ∈ la, p.length ≤ maxLen) (h12 : la.length ≤ 12) (hpa : Pcs w A la) (B : Option Addr) (d : Nat) (lb : List (List Nat)) (hlb : ∀ p ∈ lb, AllLt 256 p) (hmb : ∀ p ∈ lb, p.length ≤ maxLen) (h12b : lb.length ≤ 12) (hpb : Pcs w B lb) :
    Calls Try.prog 6 #[.slice A la.length c, .slice B lb.length d] w fun e w' => e = .returned (.bool true) ∧ Below w.heap.size w w' := by
  obtain ⟨i0, hi0, hz0, hz1, hz2⟩ := info_parts u8_info2
  have HK := Lib.hid (fun W => wakes16_any W)
  have HPA := Lib.hid hpa
  have HPB := Lib.hid hpb
  have hd1 : decide ((12 : Int) < (la.length : Int)) = false := decide_eq_false (by omega)
  have hd2 : decide ((12 : Int) < (lb.length : Int)) = false := decide_eq_false (by omega)
  obtain ⟨na, hna⟩ : ∃ na, la.length = na := ⟨_, rfl⟩
  obtain ⟨nb', hnb⟩ : ∃ nb', lb.length = nb' := ⟨_, rfl⟩
  have HNA := Lib.hid hna
  have HNB := Lib.hid hnb
  have hE : ((na : Int) == (nb' : Int)) = sm la lb 0 := by
    show _ = decide (la.length = lb.length)
    rw [hna, hnb]
    by_cases h : na = nb'
    · subst h; simp
    · rw [decide_eq_false h, beq_eq_false_iff_ne]; omega
  have HLA : Hid (∀ i, i < na → AllLt 256 (la.getD i [])) := fun i hi => hla _ (by rw [List.getD_eq_getElem?_getD, List.getElem?_eq_getElem (by omega)]; exact List.getElem_mem _)
  have HLB : Hid (∀ i, i < nb' → AllLt 256 (lb.getD i [])) := fun i hi => hlb _ (by rw [List.getD_eq_getElem?_getD, List.getElem?_eq_getElem (by omega)]; exact List.getElem_mem _)
  have HMB : Hid (∀ i, i < nb' → (lb.getD i []).length ≤ maxLen) := fun i hi => hmb _ (by rw [List.getD_eq_getElem?_getD, List.getElem?_eq_getElem (by omega)]; exact List.getElem_mem _)
  have HMA : Hid (∀ i, i < na → (la.getD i []).length ≤ maxLen) := fun i hi => hma _ (by rw [List.getD_eq_getElem?_getD, List.getElem?_eq_getElem (by omega)]; exact List.getElem_mem _)
  have HTA := Lib.hid (fun k => tx_lt hla k)
  have HTB := Lib.hid (fun k => tx_lt hlb k)
  rw [hna] at h12 hd1 ⊢
  rw [hnb] at h12b hd2 ⊢
  clear hla hlb hma hmb hpa hpb hna hnb
  obtain ⟨s0, hs0⟩ : ∃ s0, sm la lb 0 = s0 := ⟨_, rfl⟩
  have HS0 := Lib.hid hs0
  rw [hs0] at hE
  clear hs0
  go_enter Try.func6, Try.ntmps6
  go_wp2_with (go_at_call 8; refine (HK.out _).mono ?_; rintro e w1 ⟨rfl, hb1⟩; have HB1 := Lib.hid hb1; clear hb1)
  have HPA1 := Lib.hid (HPA.out.below HB1.out)
  have HPB1 := Lib.hid (HPB.out.below HB1.out)
  go_loopg [5, 7, 29] na (fun g' v5 v7 iv wr => ∃ k : Nat, k + g' = na ∧ iv = .int .i64 (k : Nat) ∧ v7 = .bool (sm la lb k) ∧ Hid (Row .u8 5 w1.heap.size wr v5 (tx la k)) ∧ Hid (fit la k) ∧ Hid (Below w1.heap.size w1 wr))
  case atStart => exact ⟨0, by omega, rfl, by rw [HS0.out], by rw [tx_zero]; exact Row.nil _ _ _ _, fun i hi => by omega, Below.refl _ _⟩
  case round =>
    obtain ⟨k, hk, rfl, rfl, HR, HF, HBw⟩ := hrel
    by_cases hlt : k < na
    · obtain ⟨g', rfl⟩ : ∃ g', gk = g' + 1 := ⟨gk - 1, by omega⟩
      obtain ⟨ba, oa, Ai, ci, rfl, hca1, hwt1⟩ := HPA1.out k (by rw [HNA.out]; exact hlt)
      have hca := (HBw.out.cell (p := ⟨ba, oa + k, none⟩) (block_lt_of_cell hca1)).trans hca1
      have hdk : decide ((k : Int) < (na : Int)) = true := decide_eq_true (by omega)
      have hmt := HMA.out k hlt
      unfold maxLen at hmt
      by_cases h300 : (la.getD k []).length ≤ 300
      · have hd3 : decide ((300 : Int) < ((la.getD k []).length : Int)) = false := decide_eq_false (by omega)
        have HF1 := Lib.hid (fit_succ HF.out h300)
        have hxl := tx_length (la := la) (k := k) (by rw [HNA.out]; omega) HF.out
        have htl := textN_300 h300
        have hzl : (tx la k).length + (textN (la.getD k [])).length ≤ 10000000 := by omega
        have HX := Lib.hid (tx_succ (la := la) (k := k) (by rw [HNA.out]; exact hlt)).symm
        have HT := Lib.hid (fun W h => text_any Ai ci (la.getD k []) (by omega) W h)
        have HWt := Lib.hid (hwt1.below HBw.out (Nat.le_refl _))
        have hlat := HLA.out k hlt
        have Hs1 := Lib.hid (show sm la lb (k + 1) = (sm la lb k && (decide (k < lb.length) && sameB (la.getD k []) (lb.getD k []))) from rfl)
        rw [HNB.out] at Hs1
        obtain ⟨B5', c5', rfl, -⟩ := HR.out.words
        cases hsk : sm la lb k
        · have HSM := Lib.hid (show sm la lb (k + 1) = false by rw [Hs1.out, hsk]; rfl)
          clear Hs1 hsk hlat hxl htl
          generalize textN (la.getD k []) = T at *
          generalize la.getD k [] = t at *
          generalize tx la k = zs at *
          go_wp2_with (first
            | (go_at_call 15; (with_reducible refine (HT.out _ HWt.out).mono ?_); rintro e w3 ⟨A3, c3, rfl, -, hw3, hb3⟩; have HR3 := Lib.hid (HR.out.below hb3 (Nat.le_refl _)); have HB3 := Lib.hid (HBw.out.trans (hb3.mono HBw.out.size)); have HW3 := Lib.hid hw3; have hs3 := HB3.out.size; clear hw3 hb3)
            | (at_builtin; refine append_anyB rfl _ _ 23 rfl w1.heap.size 5 i0 Try.underlying23 hi0 hz0 hz1 hz2 _ zs rfl HR3.out A3 c3 T rfl HW3.out hzl hs3 ?_; intro v4 w4 h4 hg4; have HB4 := Lib.hid (Row.grown0 HR3.out HB3.out hs3 hg4); rw [HX.out] at h4; have HR4 := Lib.hid h4; clear h4 hg4))
          go_wp2_with fail
          go_roundg g'
          case measure => omega
          case rel => exact ⟨k + 1, by omega, by go_num, by rw [HSM.out], HR4, HF1.out, HB4⟩
        · by_cases hkb : k < nb'
          · obtain ⟨bb, ob, Bi, di, rfl, hcb1, hwu1⟩ := HPB1.out k (by rw [HNB.out]; exact hkb)
            have HSM := Lib.hid (show sm la lb (k + 1) = sameB (la.getD k []) (lb.getD k []) by rw [Hs1.out, hsk, decide_eq_true hkb]; rfl)
            have hdb : decide ((k : Int) < (nb' : Int)) = true := decide_eq_true (by omega)
            have HSm : Hid (∀ W A' c' B' d', Words .u8 W A' (la.getD k []) → Words .u8 W B' (lb.getD k []) → Calls Try.prog 11 #[.slice A' (la.getD k []).length c', .slice B' (lb.getD k []).length d'] W fun e w' => e = .returned (.bool (sameB (la.getD k []) (lb.getD k []))) ∧ Below W.heap.size W w') := fun W A' c' B' d' p q =>
              (refSame_any A' c' (la.getD k []) hlat (HMA.out k hlt) B' d' (lb.getD k []) (HLB.out k hkb) (HMB.out k hkb) W p q).mono fun e w' h => by
                obtain ⟨rfl, m, rfl⟩ := h
                exact ⟨rfl, (Below.refl _ _).drewN m⟩
            have hmu := HMB.out k hkb
            unfold maxLen at hmu
            clear Hs1 hsk hlat hxl htl
            generalize sameB (la.getD k []) (lb.getD k []) = D at *
            generalize textN (la.getD k []) = T at *
            generalize la.getD k [] = t at *
            generalize lb.getD k [] = u at *
            generalize tx la k = zs at *
            go_wp2_with (first
              | (go_at_call 15; (with_reducible refine (HT.out _ HWt.out).mono ?_); rintro e w3 ⟨A3, c3, rfl, -, hw3, hb3⟩; have HR3 := Lib.hid (HR.out.below hb3 (Nat.le_refl _)); have HB3 := Lib.hid (HBw.out.trans (hb3.mono HBw.out.size)); have HW3 := Lib.hid hw3; have hs3 := HB3.out.size; clear hw3 hb3)
              | (at_builtin; refine append_anyB rfl _ _ 23 rfl w1.heap.size 5 i0 Try.underlying23 hi0 hz0 hz1 hz2 _ zs rfl HR3.out A3 c3 T rfl HW3.out hzl hs3 ?_; intro v4 w4 h4 hg4; have HB4 := Lib.hid (Row.grown0 HR3.out HB3.out hs3 hg4); rw [HX.out] at h4; have HR4 := Lib.hid h4; have hcb := (HB4.out.cell (p := ⟨bb, ob + k, none⟩) (block_lt_of_cell hcb1)).trans hcb1; have HWt4 := Lib.hid (hwt1.below HB4.out (Nat.le_refl _)); have HWu4 := Lib.hid (hwu1.below HB4.out (Nat.le_refl _)); clear h4 hg4)
              | (go_at_call 11; (with_reducible refine (HSm.out _ _ _ _ _ HWt4.out HWu4.out).mono ?_); rintro e w5 ⟨rfl, hb5⟩; have HR5 := Lib.hid (HR4.out.below hb5 (Nat.le_refl _)); have HB5 := Lib.hid (HB4.out.trans (hb5.mono HB4.out.size)); clear hb5))
            go_wp2_with fail
            go_roundg g'
            case measure => omega
            case rel => exact ⟨k + 1, by omega, by go_num, by rw [HSM.out], HR5, HF1.out, HB5⟩
          · have HSM := Lib.hid (show sm la lb (k + 1) = false by rw [Hs1.out, hsk, decide_eq_false hkb]; rfl)
            have hdb : decide ((k : Int) < (nb' : Int)) = false := decide_eq_false (by omega)
            clear Hs1 hsk hlat hxl htl
            generalize textN (la.getD k []) = T at *
            generalize la.getD k [] = t at *
            generalize tx la k = zs at *
            go_wp2_with (first
              | (go_at_call 15; (with_reducible refine (HT.out _ HWt.out).mono ?_); rintro e w3 ⟨A3, c3, rfl, -, hw3, hb3⟩; have HR3 := Lib.hid (HR.out.below hb3 (Nat.le_refl _)); have HB3 := Lib.hid (HBw.out.trans (hb3.mono HBw.out.size)); have HW3 := Lib.hid hw3; have hs3 := HB3.out.size; clear hw3 hb3)
              | (at_builtin; refine append_anyB rfl _ _ 23 rfl w1.heap.size 5 i0 Try.underlying23 hi0 hz0 hz1 hz2 _ zs rfl HR3.out A3 c3 T rfl HW3.out hzl hs3 ?_; intro v4 w4 h4 hg4; have HB4 := Lib.hid (Row.grown0 HR3.out HB3.out hs3 hg4); rw [HX.out] at h4; have HR4 := Lib.hid h4; clear h4 hg4))
            go_wp2_with fail
            go_roundg g'
            case measure => omega
            case rel => exact ⟨k + 1, by omega, by go_num, by rw [HSM.out], HR4, HF1.out, HB4⟩
      · have hd3 : decide ((300 : Int) < ((la.getD k []).length : Int)) = true := decide_eq_true (by omega)
        generalize (la.getD k []).length = tl at *
        have HB9 := Lib.hid (HB1.out.trans (HBw.out.mono HB1.out.size))
        clear hwt1 hca1
        go_wp2_with fail
        go_ret
        exact ⟨rfl, HB9.out⟩
    · obtain rfl : k = na := by omega
      have hdk : decide ((k : Int) < (k : Int)) = false := by simp
      obtain ⟨B5', c5', rfl, HWX0⟩ := HR.out.words
      have HWX := Lib.hid HWX0
      have HB2 := Lib.hid (HB1.out.trans (HBw.out.mono HB1.out.size))
      have HPB2 := Lib.hid (HPB1.out.below HBw.out)
      have HXL := Lib.hid (tx_length (la := la) (k := k) (by rw [HNA.out]; omega) HF.out)
      clear HWX0 HR HLA HMA HPA HPA1 HPB HPB1 hk
      obtain ⟨w2, rfl⟩ : ∃ w2, w2 = wr := ⟨_, rfl⟩
      generalize hsm : sm la lb k = s at *
      have HSM := Lib.hid hsm
      clear hsm
      go_wp2_with fail
      go_loopg [6, 59] nb' (fun g' v6 iv wq => ∃ j : Nat, j + g' = nb' ∧ iv = .int .i64 (j : Nat) ∧ Hid (Row .u8 5 w2.heap.size wq v6 (tx lb j)) ∧ Hid (fit lb j) ∧ Hid (Below w2.heap.size w2 wq))
      case atStart => exact ⟨0, by omega, rfl, by rw [tx_zero]; exact Row.nil _ _ _ _, fun i hi => by omega, Below.refl _ _⟩
      case round =>
        obtain ⟨j, hj, rfl, HRj, HFj, HBj⟩ := hrel
        by_cases hlt2 : j < nb'
        · obtain ⟨g', rfl⟩ : ∃ g', gk = g' + 1 := ⟨gk - 1, by omega⟩
          obtain ⟨bb, ob, Bi, di, rfl, hcb1, hwu1⟩ := HPB2.out j (by rw [HNB.out]; exact hlt2)
          have hcb := (HBj.out.cell (p := ⟨bb, ob + j, none⟩) (block_lt_of_cell hcb1)).trans hcb1
          have hdj : decide ((j : Int) < (nb' : Int)) = true := decide_eq_true (by omega)
          have hmu := HMB.out j hlt2
          unfold maxLen at hmu
          by_cases h300 : (lb.getD j []).length ≤ 300
          · have hd3 : decide ((300 : Int) < ((lb.getD j []).length : Int)) = false := decide_eq_false (by omega)
            have HF1 := Lib.hid (fit_succ HFj.out h300)
            have hxl := tx_length (la := lb) (k := j) (by rw [HNB.out]; omega) HFj.out
            have htl := textN_300 h300
            have hzl : (tx lb j).length + (textN (lb.getD j [])).length ≤ 10000000 := by omega
            have HX := Lib.hid (tx_succ (la := lb) (k := j) (by rw [HNB.out]; exact hlt2)).symm
            have HT := Lib.hid (fun W h => text_any Bi di (lb.getD j []) (by omega) W h)
            have HWt := Lib.hid (hwu1.below HBj.out (Nat.le_refl _))
            obtain ⟨B6', c6', rfl, -⟩ := HRj.out.words
            clear hxl htl hwu1 hcb1
            generalize textN (lb.getD j []) = T at *
            generalize lb.getD j [] = t at *
            generalize tx lb j = zs at *
            go_wp2_with (first
              | (go_at_call 15; (with_reducible refine (HT.out _ HWt.out).mono ?_); rintro e w3 ⟨A3, c3, rfl, -, hw3, hb3⟩; have HR3 := Lib.hid (HRj.out.below hb3 (Nat.le_refl _)); have HB3 := Lib.hid (HBj.out.trans (hb3.mono HBj.out.size)); have HW3 := Lib.hid hw3; have hs3 := HB3.out.size; clear hw3 hb3)
              | (at_builtin; refine append_anyB rfl _ _ 23 rfl w2.heap.size 5 i0 Try.underlying23 hi0 hz0 hz1 hz2 _ zs rfl HR3.out A3 c3 T rfl HW3.out hzl hs3 ?_; intro v4 w4 h4 hg4; have HB4 := Lib.hid (Row.grown0 HR3.out HB3.out hs3 hg4); rw [HX.out] at h4; have HR4 := Lib.hid h4; clear h4 hg4))
            go_wp2_with fail
            go_roundg g'
            case measure => omega
            case rel => exact ⟨j + 1, by omega, by go_num, HR4, HF1.out, HB4⟩
          · have hd3 : decide ((300 : Int) < ((lb.getD j []).length : Int)) = true := decide_eq_true (by omega)
            generalize (lb.getD j []).length = tl at *
            have HB9 := Lib.hid (HB2.out.trans (HBj.out.mono HB2.out.size))
            clear hwu1 hcb1
            go_wp2_with fail
            go_ret
            exact ⟨rfl, HB9.out⟩
        · obtain rfl : j = nb' := by omega
          have hdj : decide ((j : Int) < (j : Int)) = false := by simp
          obtain ⟨B6', c6', rfl, HWY0⟩ := HRj.out.words
          have HWY := Lib.hid HWY0
          have HWX2 := Lib.hid (HWX.out.below HBj.out (Nat.le_refl _))
          have HYL := Lib.hid (tx_length (la := lb) (k := j) (by rw [HNB.out]; omega) HFj.out)
          have hsame : sameB (tx la k) (tx lb j) = s := by
            have := tx_same (la := la) (lb := lb) (by rw [HNA.out]; exact HF.out) (by rw [HNB.out]; exact HFj.out)
            rw [HNA.out, HNB.out] at this
            rw [this]; exact HSM.out
          have HSm := Lib.hid (fun W A' c' B' d' p q => same_any (tx la k) (tx lb j) (HTA.out k) (HTB.out j) (by have := HXL.out; omega) (by have := HYL.out; omega) W A' c' B' d' p q)
          rw [hsame] at HSm
          have HB9 := Lib.hid (HB2.out.trans (HBj.out.mono HB2.out.size))
          clear HWY0 hsame
          generalize tx la k = X at *
          generalize tx lb j = Y at *
          cases s
          all_goals
            go_wp2_with (go_at_call 11; (with_reducible refine (HSm.out _ _ _ _ _ HWX2.out HWY.out).mono ?_); rintro e w5 ⟨rfl, hb5⟩; have HB5 := Lib.hid (below_next HB9.out hb5); clear hb5)
            go_ret
            exact ⟨rfl, HB5.out⟩
set_option maxHeartbeats 1000000 in
theorem codeApart_walk (w : World) (A : Option Addr) (c : Nat) (la : List (List Nat)) (hpa : Pcs w A la) (hla : ∀ p ∈ la, AllLt 256 p) (hma : ∀ p ∈ la, p.length ≤ maxLen) (hna : la.length ≤ maxLen) (B : Option Addr) (d : Nat) (lb : List (List Nat)) (hpb : Pcs w B lb) (hlb : ∀ p ∈ lb, AllLt 256 p) (hmb : ∀ p ∈ lb, p.length ≤ maxLen) (hnb : lb.length ≤ maxLen) :
    Calls Try.prog 6 #[.slice A la.length c, .slice B lb.length d] w fun e w' => e = .returned (.bool true) ∧ Below w.heap.size w w' := by
  by_cases h1 : la.length ≤ 12
  · by_cases h2 : lb.length ≤ 12
    · exact codeApart_core w A c la hla hma h1 hpa B d lb hlb hmb h2 hpb
    · have hd1 : decide ((12 : Int) < (la.length : Int)) = false := decide_eq_false (by omega)
      have hd : decide ((12 : Int) < (lb.length : Int)) = true := decide_eq_true (by omega)
      have HK := Lib.hid (fun W => wakes16_any W)
      clear hpa hpb hla hlb hma hmb
      go_enter Try.func6, Try.ntmps6
      go_wp2_with (go_at_call 8; refine (HK.out _).mono ?_; rintro e w1 ⟨rfl, hb1⟩; have HB1 := Lib.hid hb1; clear hb1)
      go_ret
      exact ⟨rfl, HB1.out⟩
  · have hd : decide ((12 : Int) < (la.length : Int)) = true := decide_eq_true (by omega)
    have HK := Lib.hid (fun W => wakes16_any W)
    clear hpa hpb hla hlb hma hmb
    go_enter Try.func6, Try.ntmps6
    go_wp2_with (go_at_call 8; refine (HK.out _).mono ?_; rintro e w1 ⟨rfl, hb1⟩; have HB1 := Lib.hid hb1; clear hb1)
    go_ret
    exact ⟨rfl, HB1.out⟩
end Go.Proofs.Ytlfpkbiphdcpnaa.Cd
