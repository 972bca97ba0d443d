/- Layer 16's statements: paddings. -/
import Derived.Test.YtlfpkbiphdcpnaaLawcode
namespace Go.Proofs.Ytlfpkbiphdcpnaa.Cd
open Go.RowKit
set_option linter.unusedVariables false
set_option linter.unusedSimpArgs false
section
attribute [local go_sem ↓] cut_hide
set_option maxRecDepth 20000 in
set_option maxHeartbeats 4000000 in
theorem codePads_walk (w : World) (x : Nat) (h : x < 65536) (A : Option Addr) (c : Nat) (xs : List Nat) (hx : AllLt 256 xs) (hlc : xs.length ≤ c) (hcm : c ≤ maxLen) (hw : Words .u8 w A xs) :
    Calls Try.prog 7 #[.int .u16 (x : Int), .slice A xs.length c] w fun e w' => e = .returned (.bool true) ∧ Below w.heap.size w w' := by
  by_cases hl : xs.length ≤ 300
  · have HK := Lib.hid (fun W => wakes16_any W)
    obtain ⟨K, hK⟩ : ∃ K, K = 1 + x % 1000 := ⟨_, rfl⟩
    have hKi : 1 + (x : Int) % 1000 = (K : Int) := by omega
    have hK1 : 1 ≤ K := by omega
    have hK2 : K ≤ 1000 := by omega
    have HP := Lib.hid (fun W hw => pad_any (K : Int) (by omega) (by omega) A c xs (by omega) W hw)
    rw [padB_yes hK1 hK2] at HP
    obtain ⟨q, hq⟩ : ∃ q, q = padK K (padH K xs).length := ⟨_, rfl⟩
    have hqK : q < K := by rw [hq]; exact padK_lt hK1
    have eP : padN K xs = leftN K ++ (xs ++ noughts q) := by unfold padN; rw [← hq]; unfold padH; rw [List.append_assoc]
    have hPl : (padN K xs).length = nb K + 1 + xs.length + q := by rw [eP, List.length_append, leftN_length, List.length_append, noughts_length]; omega
    have hmod := padN_mod hK1 xs
    have h8 := nb_le K
    have h1n := nb_pos K
    have hPlt : AllLt 256 (padN K xs) := padN_lt hx
    have HG := Lib.hid (fun W A c h1 h2 h3 => getLeft_any A c (padN K xs) hPlt h1 h2 (by omega) W h3)
    have eN : getN (padN K xs) = K := by rw [eP]; exact getN_left K _ (by omega)
    have eS : getS (padN K xs) = nb K + 1 := by rw [eP]; exact getS_left K _ (by omega)
    have eO : glok (padN K xs) = true := by rw [eP]; exact glok_left K _ (by omega)
    rw [eN, eS, eO] at HG
    obtain ⟨S, hS⟩ : ∃ S, S = nb K + 1 := ⟨_, rfl⟩
    rw [← hS] at HG hPl
    have HPC := Lib.hid (show ((padN K xs).drop S).take xs.length = xs by rw [eP, hS, ← leftN_length, List.drop_left, List.take_left])
    have HZ : Hid (∀ j, j < q → (padN K xs).getD (S + xs.length + j) 0 = 0) := fun j hj => by
      rw [eP, List.getD_eq_getElem?_getD, List.getElem?_append_right (by rw [leftN_length]; omega), List.getElem?_append_right (by rw [leftN_length]; omega), leftN_length]
      unfold noughts
      rw [List.getElem?_replicate, if_pos (by omega)]; rfl
    have HSm := Lib.hid (fun W A c B d h1 h2 => same_any xs xs hx hx (by omega) (by omega) W A c B d h1 h2)
    rw [sameB_self] at HSm
    have hS9 : S ≤ 9 := by omega
    have hpos : 1 ≤ S := by omega
    have HW := Lib.hid hw
    have hmodi : (((padN K xs).length : Int) % (K : Int) != 0) = false := by rw [bne_eq_false_iff_eq]; omega
    have HPLT := Lib.hid hPlt
    clear hw hx hlc hcm hK eP hq hS eN eS eO hmod h8 h1n hPlt
    generalize padN K xs = PN at *
    obtain ⟨M, hM⟩ : ∃ M, M = S + xs.length := ⟨_, rfl⟩
    have hMi : (S : Int) + (xs.length : Int) = (M : Int) := by omega
    have HCUT := Lib.hid (fun W A c (h : Words .u8 W A PN) h1 h2 => cut_any W A c PN h h1 h2 S M (by omega) (by omega))
    rw [show M - S = xs.length by omega, HPC.out] at HCUT
    have HCF := Lib.hid (fun A c W => cut_from_run A PN.length c M (by omega) W)
    rw [show PN.length - M = q by omega] at HCF
    rw [← hM] at HZ
    obtain ⟨pl, hpl⟩ : ∃ pl, PN.length = pl := ⟨_, rfl⟩
    have hp1 : M + q ≤ pl := by omega
    have hp2 : pl ≤ M + q := by omega
    have hMl : M = S + xs.length := hM
    rw [hpl] at HCUT HCF HG hmodi
    have HPL := Lib.hid hpl
    have t1 : decide ((pl : Int) < (M : Int)) = false := decide_eq_false (by omega)
    have t2 : decide ((K : Int) ≤ (pl : Int) - (S : Int) - (xs.length : Int)) = false := decide_eq_false (by omega)
    have hMl1 : S ≤ M := by omega
    have hMl2 : M ≤ 1000 := by omega
    have hd : decide ((300 : Int) < (xs.length : Int)) = false := decide_eq_false (by omega)
    have hne : ((K : Int) != (K : Int)) = false := by simp
    clear hPl hpl hM hMl
    go_enter Try.func7, Try.ntmps7
    go_wp2_with (first
      | (go_at_call 8; refine (HK.out _).mono ?_; rintro e w1 ⟨rfl, hb1⟩; have HB1 := Lib.hid hb1; have HWb := Lib.hid (HW.out.below hb1 (Nat.le_refl _)); clear hb1)
      | (go_at_call 17; refine (HP.out _ HWb.out).mono ?_; rintro e w2 ⟨A2, c2, rfl, hr2, hw2, hb2⟩; have HB2 := Lib.hid (below_next HB1.out hb2); have hc2 := row_cap hr2; rw [HPL.out] at hc2 ⊢; have HC2 := Lib.hid hc2; have HW2 := Lib.hid hw2; clear hw2 hb2 hr2 hc2)
      | (go_at_call 10; (with_reducible refine (HG.out _ _ _ HC2.out.1 HC2.out.2 HW2.out).mono ?_); rintro e w3 ⟨rfl, hb3⟩; have HB3 := Lib.hid (below_next HB2.out hb3); have HW3 := Lib.hid (HW2.out.below hb3 (Nat.le_refl _)); obtain ⟨A4, hcut4, hw4⟩ := HCUT.out w3 A2 c2 HW3.out HC2.out.1 HC2.out.2; have hcf := HCF.out A2 c2 w3; have HW4 := Lib.hid hw4; clear hb3 hw4))
    have HWx := Lib.hid (HW.out.below HB3.out (Nat.le_refl _))
    obtain ⟨b, o, rfl, -⟩ := HW3.out 0 (by rw [HPL.out]; omega)
    obtain ⟨oz, hz, hoz⟩ : ∃ oz, cutA (some ⟨b, o, none⟩) c2 M = some ⟨b, oz, none⟩ ∧ (0 < q → oz = o + M) := by
      have := HC2.out.1
      by_cases e : c2 = M
      · exact ⟨o, by unfold cutA; rw [if_pos e], fun h0 => by omega⟩
      · exact ⟨o + M, by unfold cutA; rw [if_neg e]; simp [addr_add], fun _ => rfl⟩
    rw [hz]
    have HOZ := Lib.hid hoz
    clear hz hoz hcf
    go_loopg [72] q (fun g' iv wr => ∃ j : Nat, j + g' = q ∧ iv = .int .i64 (j : Nat) ∧ w3 = wr)
    case atStart => exact ⟨0, by omega, rfl, rfl⟩
    case round =>
      obtain ⟨j, hj, rfl, rfl⟩ := hrel
      by_cases hlt : j < q
      · obtain ⟨g', rfl⟩ : ∃ g', gk = g' + 1 := ⟨gk - 1, by omega⟩
        obtain ⟨b', o', e', hc⟩ := HW3.out (M + j) (by rw [HPL.out]; omega)
        cases e'
        rw [HZ.out j hlt, ← Nat.add_assoc, ← HOZ.out (by omega)] at hc
        have hdj : decide ((j : Int) < (q : Int)) = true := decide_eq_true (by omega)
        clear hcut4
        go_wp2_with fail
        go_roundg g'
        case measure => omega
        case rel => exact ⟨j + 1, by omega, by go_num, rfl⟩
      · obtain rfl : j = q := by omega
        have hdj : decide ((j : Int) < (j : Int)) = false := by simp
        go_wp2_with (go_at_call 11; (with_reducible refine (HSm.out _ _ _ _ _ HW4.out HWx.out).mono ?_); rintro e w7 ⟨rfl, hb7⟩; have HB7 := Lib.hid (below_next HB3.out hb7); clear hb7)
        go_ret
        exact ⟨rfl, HB7.out⟩
  · have hd : decide ((300 : Int) < (xs.length : Int)) = true := decide_eq_true (by omega)
    have HK := Lib.hid (fun W => wakes16_any W)
    clear hw hx
    go_enter Try.func7, Try.ntmps7
    go_wp2_with (go_at_call 8; refine (HK.out _).mono ?_; rintro e w1 ⟨rfl, hb1⟩; have HB1 := Lib.hid hb1; clear hb1)
    go_ret
    exact ⟨rfl, HB1.out⟩
end
end Go.Proofs.Ytlfpkbiphdcpnaa.Cd
