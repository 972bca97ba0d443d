/- Layer 3: the law on words' bytes: the walk ends with true. -/
import Derived.Test.YtmnfgeceicoleaaLawload
namespace Go.Proofs.Ytmnfgeceicoleaa
open Go.RowKit
set_option linter.unusedVariables false
/-- Four slices, each in a row of its own. -/
structure Four (B : Nat) (t1 t4 : TypeId) (w : World) (v1 v2 v3 v4 : Value) (l1 l2 l3 l4 : List Nat) : Prop where
  r1 : Row .u8 t1 B w v1 l1
  r2 : Row .u8 t1 B w v2 l2
  r3 : Row .u8 t1 B w v3 l3
  r4 : Row .u32 t4 B w v4 l4
  s12 : Sep v1 v2
  s13 : Sep v1 v3
  s14 : Sep v1 v4
  s23 : Sep v2 v3
  s24 : Sep v2 v4
  s34 : Sep v3 v4
section
variable {B : Nat} {t1 t4 : TypeId} {w w1 : World} {v1 v2 v3 v4 v' : Value} {l1 l2 l3 l4 l' : List Nat}
theorem Four.below (h : Four B t1 t4 w v1 v2 v3 v4 l1 l2 l3 l4) (hb : Below w.heap.size w w1) : Four B t1 t4 w1 v1 v2 v3 v4 l1 l2 l3 l4 :=
  ⟨h.r1.below hb (Nat.le_refl _), h.r2.below hb (Nat.le_refl _), h.r3.below hb (Nat.le_refl _), h.r4.below hb (Nat.le_refl _), h.s12, h.s13, h.s14, h.s23, h.s24, h.s34⟩
theorem Four.step1 (h : Four B t1 t4 w v1 v2 v3 v4 l1 l2 l3 l4) (hg : w.grownBy w1 v1.ownBlock) (hr : Row .u8 t1 B w1 v' l') (hat : v'.ownBlock = v1.ownBlock ∨ v'.ownBlock = some w.heap.size) : Four B t1 t4 w1 v' v2 v3 v4 l' l2 l3 l4 :=
  ⟨hr, h.r2.other h.s12 hg, h.r3.other h.s13 hg, h.r4.other h.s14 hg, h.s12.grown h.r2 hat, h.s13.grown h.r3 hat, h.s14.grown h.r4 hat, h.s23, h.s24, h.s34⟩
theorem Four.step2 (h : Four B t1 t4 w v1 v2 v3 v4 l1 l2 l3 l4) (hg : w.grownBy w1 v2.ownBlock) (hr : Row .u8 t1 B w1 v' l') (hat : v'.ownBlock = v2.ownBlock ∨ v'.ownBlock = some w.heap.size) : Four B t1 t4 w1 v1 v' v3 v4 l1 l' l3 l4 :=
  ⟨h.r1.other h.s12.symm hg, hr, h.r3.other h.s23 hg, h.r4.other h.s24 hg, (h.s12.symm.grown h.r1 hat).symm, h.s13, h.s14, h.s23.grown h.r3 hat, h.s24.grown h.r4 hat, h.s34⟩
theorem Four.step3 (h : Four B t1 t4 w v1 v2 v3 v4 l1 l2 l3 l4) (hg : w.grownBy w1 v3.ownBlock) (hr : Row .u8 t1 B w1 v' l') (hat : v'.ownBlock = v3.ownBlock ∨ v'.ownBlock = some w.heap.size) : Four B t1 t4 w1 v1 v2 v' v4 l1 l2 l' l4 :=
  ⟨h.r1.other h.s13.symm hg, h.r2.other h.s23.symm hg, hr, h.r4.other h.s34 hg, h.s12, (h.s13.symm.grown h.r1 hat).symm, h.s14, (h.s23.symm.grown h.r2 hat).symm, h.s24, h.s34.grown h.r4 hat⟩
theorem Four.step4 (h : Four B t1 t4 w v1 v2 v3 v4 l1 l2 l3 l4) (hg : w.grownBy w1 v4.ownBlock) (hr : Row .u32 t4 B w1 v' l') (hat : v'.ownBlock = v4.ownBlock ∨ v'.ownBlock = some w.heap.size) : Four B t1 t4 w1 v1 v2 v3 v' l1 l2 l3 l' :=
  ⟨h.r1.other h.s14.symm hg, h.r2.other h.s24.symm hg, h.r3.other h.s34.symm hg, hr, h.s12, h.s13, (h.s14.symm.grown h.r1 hat).symm, h.s23, (h.s24.symm.grown h.r2 hat).symm, (h.s34.symm.grown h.r3 hat).symm⟩
end
theorem u8_info4 : (Try.prog.info? 5).map (fun i => (i.zero, i.size, i.bytes)) = some (some (.int .u8 0), 1, 1) := by kernel_rfl
theorem u32_info4 : (Try.prog.info? 27).map (fun i => (i.zero, i.size, i.bytes)) = some (some (.int .u32 0), 1, 4) := by kernel_rfl
theorem putBig_snoc (n : Nat) (l : List Nat) (x : Nat) : putBig n (l ++ [x]) = putBig n l ++ beB n x := flat_snoc _ _ _
theorem putLittle_snoc (n : Nat) (l : List Nat) (x : Nat) : putLittle n (l ++ [x]) = putLittle n l ++ leB n x := flat_snoc _ _ _
def shorts (l : List Nat) : List Nat := l.map fun x => x % 4294967296
theorem shorts_snoc (l : List Nat) (x : Nat) : shorts (l ++ [x]) = shorts l ++ [x % 4294967296] := by simp [shorts]
theorem shorts_lt (l : List Nat) : AllLt 4294967296 (shorts l) := AllLt.map fun _ _ => Nat.mod_lt _ (by omega)

set_option maxHeartbeats 4000000 in
theorem loadPuts_walk (w : World) (A : Option Addr) (c : Nat) (xs : List Nat) (hx : AllLt 18446744073709551616 xs) (hlc : xs.length ≤ c) (hcm : c ≤ maxLen) (hw : Words .u64 w A xs) :
    Calls Try.prog 4 #[.slice A xs.length c] w fun e w' => e = .returned (.bool true) ∧ Below w.heap.size w w' := by
  obtain ⟨i0, hi0, hz0, hz1, hz2⟩ := info_parts u8_info4
  obtain ⟨j0, hj0, hy0, hy1, hy2⟩ := info_parts u32_info4
  have hcm' := hcm
  unfold maxLen at hcm'
  by_cases hbig : 200 < xs.length
  · go_enter Try.func4, Try.ntmps4
    go_wp2_with fail
    refine (wakes_any _).mono ?_
    rintro e w1 ⟨rfl, hB1⟩
    go_wp2
    go_ret
    exact ⟨rfl, hB1⟩
  · go_enter Try.func4, Try.ntmps4
    go_wp2_with fail
    refine (wakes_any _).mono ?_
    rintro e w1 ⟨rfl, hB1⟩
    replace hw := hw.below hB1 (Nat.le_refl _)
    go_wp2
    go_loopw [3, 4, 5, 6, 8, 18] (fun v1 v2 v3 v4 _ i wr => ∃ k : Nat, k ≤ xs.length ∧ i = .int .i64 k ∧ Four w1.heap.size 5 27 wr v1 v2 v3 v4 (putBig 8 (xs.take k)) (putLittle 8 (xs.take k)) (putBig 4 (shorts (xs.take k))) (shorts (xs.take k)) ∧ Below w1.heap.size w1 wr) (fun _ _ _ _ _ i _ => xs.length - (intOf i).toNat)
    case atStart => exact ⟨0, Nat.zero_le _, rfl, ⟨Row.nil _ _ _ _, Row.nil _ _ _ _, Row.nil _ _ _ _, Row.nil _ _ _ _, Sep.nil _, Sep.nil _, Sep.nil _, Sep.nil _, Sep.nil _, Sep.nil _⟩, Below.refl _ _⟩
    case round =>
      obtain ⟨k, hk, rfl, hfour, hB⟩ := hrel
      have F := Lib.hid hfour
      clear hfour
      have HB := Lib.hid hB
      clear hB
      have hsz := HB.out.size
      by_cases hlt : k < xs.length
      · obtain ⟨g, o, rfl, hgl, hc⟩ := hw.block hlt
        replace hc := (HB.out.cell (p := ⟨g, o + k, none⟩) hgl).trans hc
        have HT := Lib.hid (take_snocD xs k hlt)
        have hg := hx.at hlt
        have HL1 : Hid ((putBig 8 (xs.take k)).length = k * 8) := by unfold Hid; rw [putBig_length, List.length_take]; omega
        have HL2 : Hid ((putLittle 8 (xs.take k)).length = k * 8) := by unfold Hid; rw [putLittle_length, List.length_take]; omega
        have HL3 : Hid ((putBig 4 (shorts (xs.take k))).length = k * 4) := by unfold Hid; rw [putBig_length, shorts, List.length_map, List.length_take]; omega
        have HL4 : Hid ((shorts (xs.take k)).length = k) := by unfold Hid; rw [shorts, List.length_map, List.length_take]; omega
        generalize hxk : xs.getD k 0 = x at *
        generalize hys : xs.take k = ys at *
        clear hxk hys hx hw
        go_wp2_with fail
        refine (refBig_any x hg 8 (by omega) _).mono ?_
        rintro e w2 h2
        obtain ⟨A2, c2, rfl, -, -, hw2, hb2, hB2⟩ := h2.on HB.out
        have F2 := Lib.hid (F.out.below hb2)
        clear h2 hb2 HB F hc
        obtain ⟨g2, o2, rfl, hg2, _⟩ := hw2.block (i := 0) (by rw [beB_length]; omega)
        have hs2 := hB2.size
        have HB2 := Lib.hid hB2
        have HW2 := Lib.hid hw2
        clear hB2 hw2
        rw [beB_length]
        simp only []
        go_step
        refine wpList_append_own_at _ rfl _ _ 22 rfl w1.heap.size 5 i0 (.int .u8 0) 1 1 Try.underlying22 hi0 hz0 hz1 hz2 rfl (by decide) _ _ _ rfl F2.out.r1 ⟨g2, o2, none⟩ 8 c2 (cellsOf .u8 (beB 8 x)) rfl (by simp [cellsOf_length, beB_length]) (words_add HW2.out) (cellsOf_oneCell _ _) (by rw [HL1.out]; unfold maxLen; omega) (by rw [HL1.out]; omega) (by omega) ?_
        intro v2' w2' hown' hgrow _ hat
        have G2 := Lib.hid (F2.out.step1 hgrow (Row.append (zs := putBig 8 ys) (ys := beB 8 x) (by rw [beB_length]; exact hown')) hat)
        have GB2 := Lib.hid (Row.grown0 F2.out.r1 HB2.out hs2 hgrow)
        clear hown' hgrow hat F2 HB2 HW2
        go_wp2_with fail
        refine (refLittle_any x hg 8 (by omega) _).mono ?_
        rintro e w3 h3
        obtain ⟨A3, c3, rfl, -, -, hw3, hb3, hB3⟩ := h3.on GB2.out
        have F3 := Lib.hid (G2.out.below hb3)
        clear h3 hb3 GB2 G2
        obtain ⟨g3, o3, rfl, hg3, _⟩ := hw3.block (i := 0) (by rw [leB_length]; omega)
        have hs3 := hB3.size
        have HB3 := Lib.hid hB3
        have HW3 := Lib.hid hw3
        clear hB3 hw3
        rw [leB_length]
        simp only []
        go_step
        refine wpList_append_own_at _ rfl _ _ 22 rfl w1.heap.size 5 i0 (.int .u8 0) 1 1 Try.underlying22 hi0 hz0 hz1 hz2 rfl (by decide) _ _ _ rfl F3.out.r2 ⟨g3, o3, none⟩ 8 c3 (cellsOf .u8 (leB 8 x)) rfl (by simp [cellsOf_length, leB_length]) (words_add HW3.out) (cellsOf_oneCell _ _) (by rw [HL2.out]; unfold maxLen; omega) (by rw [HL2.out]; omega) (by omega) ?_
        intro v3' w3' hown' hgrow _ hat
        have G3 := Lib.hid (F3.out.step2 hgrow (Row.append (zs := putLittle 8 ys) (ys := leB 8 x) (by rw [leB_length]; exact hown')) hat)
        have GB3 := Lib.hid (Row.grown0 F3.out.r2 HB3.out hs3 hgrow)
        clear hown' hgrow hat F3 HB3 HW3
        go_wp2_with fail
        rw [show (x : Int) % 4294967296 = ((x % 4294967296 : Nat) : Int) by omega]
        refine (refBig_any (x % 4294967296) (by omega) 4 (by omega) _).mono ?_
        rintro e w4 h4
        obtain ⟨A4, c4, rfl, -, -, hw4, hb4, hB4⟩ := h4.on GB3.out
        have F4 := Lib.hid (G3.out.below hb4)
        clear h4 hb4 GB3 G3
        obtain ⟨g4, o4, rfl, hg4, _⟩ := hw4.block (i := 0) (by rw [beB_length]; omega)
        have hs4 := hB4.size
        have HB4 := Lib.hid hB4
        have HW4 := Lib.hid hw4
        clear hB4 hw4
        rw [beB_length]
        simp only []
        go_step
        refine wpList_append_own_at _ rfl _ _ 22 rfl w1.heap.size 5 i0 (.int .u8 0) 1 1 Try.underlying22 hi0 hz0 hz1 hz2 rfl (by decide) _ _ _ rfl F4.out.r3 ⟨g4, o4, none⟩ 4 c4 (cellsOf .u8 (beB 4 (x % 4294967296))) rfl (by simp [cellsOf_length, beB_length]) (words_add HW4.out) (cellsOf_oneCell _ _) (by rw [HL3.out]; unfold maxLen; omega) (by rw [HL3.out]; omega) (by omega) ?_
        intro v4' w4' hown' hgrow _ hat
        have G4 := Lib.hid (F4.out.step3 hgrow (Row.append (zs := putBig 4 (shorts ys)) (ys := beB 4 (x % 4294967296)) (by rw [beB_length]; exact hown')) hat)
        have GB4 := Lib.hid (Row.grown0 F4.out.r3 HB4.out hs4 hgrow)
        clear hown' hgrow hat F4 HB4 HW4
        have hs5 := GB4.out.size
        have HX : Hid ((x : Int) % 4294967296 = ((x % 4294967296 : Nat) : Int)) := by unfold Hid; omega
        go_wp2_with (at_builtin; refine wpList_append_own_at _ rfl _ _ 25 rfl w1.heap.size 27 j0 (.int .u32 0) 1 4 Try.underlying25 hj0 hy0 hy1 hy2 rfl (by decide) _ _ _ rfl (World.ownsRow.alloc G4.out.r4 _) ⟨w4'.heap.size, 0, none⟩ 1 1 [.int .u32 ((x : Int) % 4294967296)] rfl rfl (one_at _ _ _) (fun u hu => by simp at hu; subst hu; rfl) (by rw [HL4.out]; unfold maxLen; omega) (by rw [HL4.out]; omega) (by simp; omega) ?_; intro v5 w5 hown' hgrow _ hat; have G5 := Lib.hid ((G4.out.below ((Below.refl w4'.heap.size w4').alloc (Nat.le_refl _) _)).step4 hgrow (Row.snoc (zs := shorts ys) (y := x % 4294967296) HX.out hown') hat); have GB5 := Lib.hid (Row.grown G4.out.r4 GB4.out hs5 hgrow); clear hown' hgrow hat G4 GB4)
        go_roundw
        case rel => exact ⟨k + 1, by omega, by go_num, by rw [HT.out, putBig_snoc, putLittle_snoc, shorts_snoc, putBig_snoc]; exact G5.out, GB5.out⟩
        case measure => simp [intOf]; omega
      · obtain rfl : k = xs.length := by omega
        obtain ⟨q1, q2, q3, q4, -, -, -, -, -, -⟩ := F.out
        rw [List.take_length] at q1 q2 q3 q4
        clear F
        have e1 := Lib.hid (big64_put hx)
        have e2 := Lib.hid (little64_put hx)
        have b1 := putBig_lt 8 xs
        have b2 := putLittle_lt 8 xs
        have b3 := putBig_lt 4 (shorts xs)
        have b4 := shorts_lt xs
        have n1 : (putBig 8 xs).length ≤ 1600 := by rw [putBig_length]; omega
        have n2 : (putLittle 8 xs).length ≤ 1600 := by rw [putLittle_length]; omega
        have n4 : (shorts xs).length ≤ 200 := by rw [shorts, List.length_map]; omega
        have n3 : (putBig 4 (shorts xs)).length ≤ 1600 := by rw [putBig_length]; omega
        have K1 := Lib.hid (fun W hW => putB64_any A c xs hx (by omega) W hW)
        have K2 := Lib.hid (fun W hW => putL64_any A c xs hx (by omega) W hW)
        generalize putBig 8 xs = P1 at *
        generalize putLittle 8 xs = P2 at *
        have K3 := Lib.hid (fun A c W hW => putB32_any A c (shorts xs) b4 (by omega) W hW)
        generalize putBig 4 (shorts xs) = P3 at *
        generalize shorts xs = P4 at *
        obtain ⟨A1, c1, rfl, h1⟩ := q1.words
        obtain ⟨A2, c2, rfl, h2⟩ := q2.words
        obtain ⟨A3, c3, rfl, h3⟩ := q3.words
        obtain ⟨A4, c4, rfl, h4⟩ := q4.words
        clear q1 q2 q3 q4
        replace hw := hw.below HB.out (Nat.le_refl _)
        have hB2 := hB1.trans (HB.out.mono hB1.size)
        clear HB
        go_wp2_with fail
        refine (K1.out _ hw).mono ?_
        rintro e w5 g5
        obtain ⟨A5, c5, rfl, hc5, hm5, h5, hb5, hB5⟩ := g5.on hB2
        replace hw := hw.below hb5 (Nat.le_refl _)
        replace h1 := h1.below hb5 (Nat.le_refl _)
        replace h2 := h2.below hb5 (Nat.le_refl _)
        replace h3 := h3.below hb5 (Nat.le_refl _)
        replace h4 := h4.below hb5 (Nat.le_refl _)
        clear g5 hb5 hB2 K1
        go_wp2_with fail
        refine (K2.out _ hw).mono ?_
        rintro e w6 g6
        obtain ⟨A6, c6, rfl, hc6, hm6, h6, hb6, hB6⟩ := g6.on hB5
        replace hw := hw.below hb6 (Nat.le_refl _)
        replace h1 := h1.below hb6 (Nat.le_refl _)
        replace h2 := h2.below hb6 (Nat.le_refl _)
        replace h3 := h3.below hb6 (Nat.le_refl _)
        replace h4 := h4.below hb6 (Nat.le_refl _)
        replace h5 := h5.below hb6 (Nat.le_refl _)
        clear g6 hb6 hB5 K2
        go_wp2_with fail
        have C7 := refSame_any A5 c5 P1 b1 (by unfold maxLen; omega) A1 c1 P1 b1 (by unfold maxLen; omega) w6 h5 h1
        rw [sameB_self] at C7
        refine C7.mono ?_
        rintro e w7 ⟨rfl, m7, rfl⟩
        clear C7 h1
        go_wp2_with fail
        have C8 := refSame_any A6 c6 P2 b2 (by unfold maxLen; omega) A2 c2 P2 b2 (by unfold maxLen; omega) (w6.drewN m7) h6 h2
        rw [sameB_self] at C8
        refine C8.mono ?_
        rintro e w8 ⟨rfl, m8, rfl⟩
        clear C8 h2
        rw [drewN_drewN]
        go_wp2_with fail
        refine (K3.out A4 c4 (w6.drewN (m7 + m8)) h4).mono ?_
        rintro e w9 g9
        obtain ⟨A9, c9, rfl, hc9, hm9, h9, hb9, hB9⟩ := g9.on (hB6.drewN (m7 + m8))
        replace hw := (hw.drewN (m7 + m8)).below hb9 (Nat.le_refl _)
        replace h3 := (h3.drewN (m7 + m8)).below hb9 (Nat.le_refl _)
        replace h5 := (h5.drewN (m7 + m8)).below hb9 (Nat.le_refl _)
        replace h6 := (h6.drewN (m7 + m8)).below hb9 (Nat.le_refl _)
        clear g9 hb9 hB6 K3 h4
        go_wp2_with fail
        have C10 := refSame_any A9 c9 P3 b3 (by unfold maxLen; omega) A3 c3 P3 b3 (by unfold maxLen; omega) w9 h9 h3
        rw [sameB_self] at C10
        refine C10.mono ?_
        rintro e w10 ⟨rfl, m10, rfl⟩
        clear C10 h3 h9
        go_wp2_with fail
        have C11 := big64_any A5 c5 P1 b1 hc5 hm5 (by omega) (w9.drewN m10) (h5.drewN m10)
        rw [e1.out] at C11
        refine C11.mono ?_
        rintro e w11 g11
        obtain ⟨A11, c11, rfl, hc11, hm11, h11, hb11, hB11⟩ := g11.on (hB9.drewN m10)
        replace hw := (hw.drewN m10).below hb11 (Nat.le_refl _)
        replace h6 := (h6.drewN m10).below hb11 (Nat.le_refl _)
        clear g11 hb11 hB9 C11 h5
        go_wp2_with fail
        have C12 := refWords_any A11 c11 xs hx (by unfold maxLen; omega) A c xs hx (by unfold maxLen; omega) w11 h11 hw
        rw [sameB_self] at C12
        refine C12.mono ?_
        rintro e w12 ⟨rfl, m12, rfl⟩
        clear C12 h11
        go_wp2_with fail
        have C13 := little64_any A6 c6 P2 b2 hc6 hm6 (by omega) (w11.drewN m12) (h6.drewN m12)
        rw [e2.out] at C13
        refine C13.mono ?_
        rintro e w13 g13
        obtain ⟨A13, c13, rfl, hc13, hm13, h13, hb13, hB13⟩ := g13.on (hB11.drewN m12)
        replace hw := (hw.drewN m12).below hb13 (Nat.le_refl _)
        clear g13 hb13 hB11 C13 h6
        go_wp2_with fail
        have C14 := refWords_any A13 c13 xs hx (by unfold maxLen; omega) A c xs hx (by unfold maxLen; omega) w13 h13 hw
        rw [sameB_self] at C14
        refine C14.mono ?_
        rintro e w14 ⟨rfl, m14, rfl⟩
        clear C14 h13
        go_wp2
        go_ret
        exact ⟨rfl, hB13.drewN m14⟩
end Go.Proofs.Ytmnfgeceicoleaa
