/- Layer 14: the laws on bytes told, and on windows. -/
import Derived.Test.YtdjidalmnojbjaaLawlane
namespace Go.Proofs.Ytdjidalmnojbjaa.Ln
open Go.RowKit Rw L64
set_option linter.unusedVariables false
set_option linter.unusedSimpArgs false
set_option maxRecDepth 20000 in
set_option maxHeartbeats 4000000 in
theorem laneOuts_core (w : World) (f : Nat → Nat) (p n : Int) (L : List Nat) (hL : AllLt 256 L) (hLl : L.length ≤ 200)
    (CO : ∀ W, Calls Try.prog 14 #[.agg (uTab 25 f), .int .i64 p, .int .i64 n] W (Gives .u8 5 L W))
    (CR : ∀ W, Calls Try.prog 15 #[.agg (uTab 25 f), .int .i64 p, .int .i64 n] W (Gives .u8 5 L W)) :
    Calls Try.prog 5 #[.agg (uTab 25 f), .int .i64 p, .int .i64 n] w fun e w' => e = .returned (.bool true) ∧ Below w.heap.size w w' := by
  have H0 := Hold.new w (uTab 25 f) 24 25 (uTab_size _ _)
  have HB0 := (Below.refl w.heap.size w).alloc (Nat.le_refl _) (.cells (uTab 25 f) 24)
  go_enter Try.func5, Try.ntmps5
  go_wp2_with fail
  generalize w.alloc (.cells (uTab 25 f) 24) = w0 at *
  refine (wakes14_any _).mono ?_
  rintro e w1 ⟨rfl, hb1⟩
  have H1 := Lib.hid (H0.call hb1).drew
  have HB1 := Lib.hid (below_drew (HB0.trans (hb1.mono HB0.size)))
  have q1 : (loadRow 24 (.pointer (some ⟨w.heap.size, 0, none⟩))).run Try.prog w1.drew = .ok (.agg (uTab 25 f)) w1.drew := H1.out.load Try.underlying24 rfl (by kernel_rfl)
  have hsb := sameB_self L
  clear H0 HB0 hb1
  go_wp2_with fail
  go_region_law (first
    | (go_simp
       go_at_call 14
       (with_reducible refine (CO _).mono ?_)
       rintro e u1 h1
       obtain ⟨A1, c1, rfl, hlc1, hcm1, -, hw1, hb1⟩ := gives_caps h1
       clear h1
       have H1 := Lib.hid (H1.out.call hb1)
       have HB1 := Lib.hid (HB1.out.trans (hb1.mono HB1.out.size))
       have HW1 := Lib.hid hw1
       (try have HW2 := Lib.hid (HW2.out.below hb1 (Nat.le_refl _)))
       have q1 : (loadRow 24 (.pointer (some ⟨w.heap.size, 0, none⟩))).run Try.prog u1 = .ok (.agg (uTab 25 f)) u1 := H1.out.load Try.underlying24 rfl (by kernel_rfl)
       clear hw1 hb1)
    | (go_simp
       go_at_call 15
       (with_reducible refine (CR _).mono ?_)
       rintro e u2 h2
       obtain ⟨A2, c2, rfl, hlc2, hcm2, -, hw2, hb2⟩ := gives_caps h2
       clear h2
       have H1 := Lib.hid (H1.out.call hb2)
       have HB1 := Lib.hid (HB1.out.trans (hb2.mono HB1.out.size))
       have HW2 := Lib.hid hw2
       (try have HW1 := Lib.hid (HW1.out.below hb2 (Nat.le_refl _)))
       have q1 : (loadRow 24 (.pointer (some ⟨w.heap.size, 0, none⟩))).run Try.prog u2 = .ok (.agg (uTab 25 f)) u2 := H1.out.load Try.underlying24 rfl (by kernel_rfl)
       clear hw2 hb2)
    | (go_simp
       go_at_call 10
       refine (refSame_any _ _ L hL (by unfold maxLen; omega) _ _ L hL (by unfold maxLen; omega) _ HW1.out HW2.out).mono ?_
       rintro e u3 ⟨rfl, m3, rfl⟩
       have HB3 := Lib.hid (HB1.out.drewN m3)))
  all_goals
    go_wp2
    go_ret
    exact ⟨rfl, HB3.out⟩
theorem laneOuts_walk (w : World) (f : Nat → Nat) (hf : ∀ i, f i < 18446744073709551616) (p : Int) (hp : -9223372036854775808 ≤ p) (hp' : p ≤ 9223372036854775807) (n : Int) (hn : -9223372036854775808 ≤ n) (hn' : n ≤ 9223372036854775807) :
    Calls Try.prog 5 #[.agg (uTab 25 f), .int .i64 p, .int .i64 n] w fun e w' => e = .returned (.bool true) ∧ Below w.heap.size w w' :=
  laneOuts_core w f p n (outN f p n) (outN_lt f p n) (outN_le f p n) (fun W => out14_any f hf p n hp hp' hn hn' W) (fun W => refOut14_any f hf p n hp hp' hn hn' W)
set_option maxRecDepth 20000 in
set_option maxHeartbeats 4000000 in
theorem laneWindows_core (w : World) (x : Nat) (hx8 : x < 256) (A : Option Addr) (c : Nat) (xs : List Nat) (hx : AllLt 256 xs) (hlc : xs.length ≤ c) (hcm : c ≤ maxLen) (hsz : c ≤ 140737488351232) (hw : Words .u8 w A xs) (v : Nat → Nat) (ys : List Nat) (hy : AllLt 256 ys) (hyl : ys.length = 200)
    (hz : ∀ k, k < 200 → (k < x ∨ x + xs.length ≤ k) → ys.getD k 0 = 0)
    (CX : x + xs.length ≤ 200 → ∀ W, Words .u8 W A xs → Calls Try.prog 12 #[.agg (uTab 25 fun _ => 0), .int .i64 (x : Nat), .slice A xs.length c] W fun e w' => e = .returned (.agg (uTab 25 v)) ∧ Below W.heap.size W w')
    (CB : ∀ W, Calls Try.prog 8 #[.agg (uTab 25 v)] W (Gives .u8 5 ys W))
    (CO : x + xs.length ≤ 200 → ∀ W, Calls Try.prog 14 #[.agg (uTab 25 v), .int .i64 (x : Nat), .int .i64 (xs.length : Nat)] W (Gives .u8 5 xs W)) :
    Calls Try.prog 6 #[.int .u8 (x : Nat), .slice A xs.length c] w fun e w' => e = .returned (.bool true) ∧ Below w.heap.size w w' := by
  unfold maxLen at hcm
  go_enter Try.func6, Try.ntmps6
  go_wp2_with fail
  refine (wakes14_any _).mono ?_
  rintro e w1 ⟨rfl, hb1⟩
  have HB1 := Lib.hid hb1
  clear hb1
  have k1 : IntKind.i64.wrap ((x : Int) + (xs.length : Int)) = (x : Int) + (xs.length : Int) := by rw [IntKind.wrap_i64]; omega
  have k2 : IntKind.i64.wrap (x : Int) = (x : Int) := by rw [IntKind.wrap_i64]; omega
  by_cases hbig : 200 < x + xs.length
  · have hb : (200 : Int) < (x : Int) + (xs.length : Int) := by omega
    go_wp2
    go_ret
    exact ⟨rfl, HB1.out⟩
  · have hb : ((x : Int) + (xs.length : Int)) ≤ 200 := by omega
    go_wp2_with fail
    refine (CX (by omega) _ (hw.below HB1.out (Nat.le_refl _))).mono ?_
    rintro e w2 ⟨rfl, hb2⟩
    have HB2 := Lib.hid (HB1.out.trans (hb2.mono HB1.out.size))
    have HN := Lib.hid (Hold.new w2 (uTab 25 v) 24 25 (uTab_size _ _))
    have HB3 := Lib.hid (HB2.out.alloc HB2.out.size (.cells (uTab 25 v) 24))
    have hs3 : (w2.alloc (.cells (uTab 25 v) 24)).heap.size = w2.heap.size + 1 := by simp
    clear hb2 HB1
    go_wp2_with fail
    generalize w2.alloc (.cells (uTab 25 v) 24) = w3 at *
    have hlt3 := HN.out.lt
    generalize w2.heap.size = m at *
    refine (CB _).mono ?_
    rintro e w4 h4
    obtain ⟨A4, c4, rfl, -, -, -, hw4, hb4⟩ := gives_caps h4
    have HN4 := Lib.hid (HN.out.call hb4)
    have HB4 := Lib.hid (HB3.out.trans (hb4.mono HB3.out.size))
    obtain ⟨b4, o4, rfl, -, -⟩ := hw4.block (i := 0) (by omega)
    have HW4 := Lib.hid hw4
    rw [hyl]
    clear h4 hw4 hb4 hs3 hlt3 HN HB3
    go_wp2_with fail
    go_loopg [25] 200 (fun g' i wr => ∃ k : Nat, k + g' = 200 ∧ i = .int .i64 (k : Nat) ∧ wr = w4)
    case atStart => exact ⟨0, by omega, rfl, rfl⟩
    case round =>
      obtain ⟨k, hk, rfl, rfl⟩ := hrel
      by_cases hlt : k < 200
      · obtain ⟨g', rfl⟩ : ∃ g', gk = g' + 1 := ⟨gk - 1, by omega⟩
        have hk2 : (k : Int) < 200 := Int.ofNat_lt.2 hlt
        obtain ⟨b5, o5, e5, hc⟩ := HW4.out k (by omega)
        cases e5
        have hyk := hy.at (i := k) (by omega)
        by_cases hout : k < x ∨ x + xs.length ≤ k
        · rw [hz k hlt hout] at hc
          by_cases h1 : k < x
          · have h1' : (k : Int) < (x : Int) := by omega
            clear hz
            go_wp2_with fail
            go_roundg g'
            case measure => omega
            case rel => exact ⟨k + 1, by omega, by go_num, rfl⟩
          · have h1' : (x : Int) ≤ (k : Int) := by omega
            have h2' : (x : Int) + (xs.length : Int) ≤ (k : Int) := by omega
            clear hz
            go_wp2_with fail
            go_roundg g'
            case measure => omega
            case rel => exact ⟨k + 1, by omega, by go_num, rfl⟩
        · have h1' : (x : Int) ≤ (k : Int) := by omega
          have h2' : (k : Int) < (x : Int) + (xs.length : Int) := by omega
          clear hz
          generalize ys.getD k 0 = y at *
          go_wp2_with fail
          go_roundg g'
          case measure => omega
          case rel => exact ⟨k + 1, by omega, by go_num, rfl⟩
      · obtain rfl : k = 200 := by omega
        clear hz
        have q1 : (loadRow 24 (.pointer (some ⟨m, 0, none⟩))).run Try.prog wr = .ok (.agg (uTab 25 v)) wr := HN4.out.load Try.underlying24 rfl (by kernel_rfl)
        go_wp2_with fail
        refine (CO (by omega) _).mono ?_
        rintro e w5 h5
        obtain ⟨A5, c5, rfl, -, -, -, hw5, hb5⟩ := gives_caps h5
        have HB5 := Lib.hid (HB4.out.trans (hb5.mono HB4.out.size))
        have HS := Lib.hid (refSame_any A5 c5 xs hx (by unfold maxLen; omega) A c xs hx (by unfold maxLen; omega) w5 hw5 (hw.below HB5.out (Nat.le_refl _)))
        clear h5 hw5 hb5
        go_wp2_with fail
        refine HS.out.mono ?_
        rintro e w6 ⟨rfl, m6, rfl⟩
        rw [sameB_self]
        have HB6 := Lib.hid (HB5.out.drewN m6)
        go_wp2
        go_ret
        exact ⟨rfl, HB6.out⟩
theorem laneWindows_walk (w : World) (x : Nat) (hx8 : x < 256) (A : Option Addr) (c : Nat) (xs : List Nat) (hx : AllLt 256 xs) (hlc : xs.length ≤ c) (hcm : c ≤ maxLen) (hsz : c ≤ 140737488351232) (hw : Words .u8 w A xs) :
    Calls Try.prog 6 #[.int .u8 (x : Nat), .slice A xs.length c] w fun e w' => e = .returned (.bool true) ∧ Below w.heap.size w w' := by
  have hm := hcm
  unfold maxLen at hm
  refine laneWindows_core w x hx8 A c xs hx hlc hcm hsz hw (xorN (fun _ => 0) (x : Nat) xs) (bytesN (xorN (fun _ => 0) (x : Nat) xs)) (bytesN_lt _) (bytesN_length _) (fun k hk h => by rw [bytesN_getD _ _ hk]; exact xor_out_none x xs hx k h)
    (fun h W hW => xor14_any (fun _ => 0) (fun _ => by omega) (x : Nat) (by omega) (by omega) A c xs hx (by omega) hlc W hW) (fun W => bytes14_any _ (fun j => xorN_lt hx j) W) (fun h W => ?_)
  have := out14_any (xorN (fun _ => 0) (x : Nat) xs) (fun j => xorN_lt hx j) (x : Nat) (xs.length : Nat) (by omega) (by omega) (by omega) (by omega) W
  rwa [out_xor x xs hx h] at this
set_option maxRecDepth 20000 in
set_option maxHeartbeats 4000000 in
theorem laneBytes_core (w : World) (f : Nat → Nat) (A : Option Addr) (c : Nat) (xs : List Nat) (hx : AllLt 256 xs) (hlc : xs.length ≤ c) (hcm : c ≤ maxLen) (hw : Words .u8 w A xs) (L1 D : Nat → Nat) (ys : List Nat) (hy : AllLt 256 ys) (hyl : ys.length = 200)
    (CB : ∀ W, Calls Try.prog 8 #[.agg (uTab 25 f)] W (Gives .u8 5 ys W))
    (CR : ∀ W, Calls Try.prog 11 #[.agg (uTab 25 f)] W (Gives .u8 5 ys W))
    (CO : ∀ W B d, Words .u8 W B ys → Calls Try.prog 9 #[.slice B 200 d] W fun e w' => e = .returned (.tuple #[.agg (uTab 25 L1), .bool true]) ∧ Below W.heap.size W w')
    (CY : xs.length = 200 → ∀ W, Words .u8 W A xs → Calls Try.prog 9 #[.slice A xs.length c] W fun e w' => e = .returned (.tuple #[.agg (uTab 25 D), .bool true]) ∧ Below W.heap.size W w')
    (CN : xs.length ≠ 200 → ∀ W, Words .u8 W A xs → Calls Try.prog 9 #[.slice A xs.length c] W fun e w' => e = .returned (.tuple #[.agg (uTab 25 fun _ => 0), .bool false]) ∧ Below W.heap.size W w')
    (CD : xs.length = 200 → ∀ W, Calls Try.prog 8 #[.agg (uTab 25 D)] W (Gives .u8 5 xs W))
    (hN : ∀ W, (binOp .neq 24 (.agg (uTab 25 L1)) (.agg (uTab 25 f))).run Try.prog W = .ok (.bool false) W) (hZ : ∀ W, (binOp .eql 24 (.agg (uTab 25 fun _ => 0)) (.agg (uTab 25 fun _ => 0))).run Try.prog W = .ok (.bool true) W) :
    Calls Try.prog 3 #[.agg (uTab 25 f), .slice A xs.length c] w fun e w' => e = .returned (.bool true) ∧ Below w.heap.size w w' := by
  unfold maxLen at hcm
  have H0 := Hold.new w (uTab 25 f) 24 25 (uTab_size _ _)
  have HB0 := (Below.refl w.heap.size w).alloc (Nat.le_refl _) (.cells (uTab 25 f) 24)
  go_enter Try.func3, Try.ntmps3
  go_wp2_with fail
  generalize w.alloc (.cells (uTab 25 f) 24) = w0 at *
  refine (wakes14_any _).mono ?_
  rintro e w1 ⟨rfl, hb1⟩
  have H1 := Lib.hid (H0.call hb1)
  have HB1 := Lib.hid (HB0.trans (hb1.mono HB0.size))
  clear H0 HB0 hb1
  by_cases hbig : 500 < xs.length
  · go_wp2
    go_ret
    exact ⟨rfl, HB1.out⟩
  · have q1 : (loadRow 24 (.pointer (some ⟨w.heap.size, 0, none⟩))).run Try.prog w1 = .ok (.agg (uTab 25 f)) w1 := H1.out.load Try.underlying24 rfl (by kernel_rfl)
    go_wp2_with fail
    refine (CB _).mono ?_
    rintro e w2 h2
    obtain ⟨A2, c2, rfl, -, -, -, hw2, hb2⟩ := gives_caps h2
    have H2 := Lib.hid (H1.out.call hb2)
    have HB2 := Lib.hid (HB1.out.trans (hb2.mono HB1.out.size))
    have HY2 := Lib.hid hw2
    rw [hyl]
    clear h2 hw2 hb2 q1 H1 HB1
    go_wp2_with fail
    refine (CO _ _ _ HY2.out).mono ?_
    rintro e w3 ⟨rfl, hb3⟩
    have H3 := Lib.hid (H2.out.call hb3)
    have HB3 := Lib.hid (HB2.out.trans (hb3.mono HB2.out.size))
    have HY3 := Lib.hid (HY2.out.below hb3 (Nat.le_refl _))
    have HL3 := Lib.hid (Hold.new w3 (uTab 25 L1) 24 25 (uTab_size _ _))
    have hb3' := (Below.refl w3.heap.size w3).alloc (Nat.le_refl _) (.cells (uTab 25 L1) 24)
    have H4 := Lib.hid (H3.out.call hb3')
    have HB4 := Lib.hid (HB3.out.trans (hb3'.mono HB3.out.size))
    have HY4 := Lib.hid (HY3.out.below hb3' (Nat.le_refl _))
    have HL4 := HL3
    clear H2 HB2 HY2 hb3 H3 HB3 HY3 hb3'
    by_cases hl : xs.length = 200
    · have hle : ((xs.length : Int) == 200) = true := by rw [hl]; rfl
      have CY' := Lib.hid (CY hl)
      have CD' := Lib.hid (CD hl)
      clear CY CD CN hl
      go_wp2_with fail
      generalize w3.alloc (.cells (uTab 25 L1) 24) = w4 at *
      generalize w3.heap.size = m3 at *
      refine (CY'.out _ (hw.below HB4.out (Nat.le_refl _))).mono ?_
      rintro e w5 ⟨rfl, hb5⟩
      have H5 := H4.out.call hb5
      have HB5 := HB4.out.trans (hb5.mono HB4.out.size)
      have HY5 := HY4.out.below hb5 (Nat.le_refl _)
      have HL5 := HL4.out.call hb5
      have HD6 := Lib.hid (Hold.new w5 (uTab 25 D) 24 25 (uTab_size _ _))
      have hb6 := (Below.refl w5.heap.size w5).alloc (Nat.le_refl _) (.cells (uTab 25 D) 24)
      have H6 := Lib.hid (H5.call hb6)
      have HL6 := Lib.hid (HL5.call hb6)
      have HB6 := Lib.hid (HB5.trans (hb6.mono HB5.size))
      have HY6 := Lib.hid (HY5.below hb6 (Nat.le_refl _))
      have q1 : (loadRow 24 (.pointer (some ⟨w.heap.size, 0, none⟩))).run Try.prog (w5.alloc (.cells (uTab 25 D) 24)) = .ok (.agg (uTab 25 f)) (w5.alloc (.cells (uTab 25 D) 24)) := H6.out.load Try.underlying24 rfl (by kernel_rfl)
      clear H4 HB4 HY4 HL4 hb5 H5 HB5 HY5 HL5 hb6
      go_wp2_with fail
      generalize w5.alloc (.cells (uTab 25 D) 24) = w6 at *
      generalize w5.heap.size = m5 at *
      refine (CR _).mono ?_
      rintro e w7 h7
      obtain ⟨A7, c7, rfl, -, -, -, hw7, hb7⟩ := gives_caps h7
      have H7 := Lib.hid (H6.out.call hb7)
      have HL7 := Lib.hid (HL6.out.call hb7)
      have HD7 := Lib.hid (HD6.out.call hb7)
      have HB7 := Lib.hid (HB6.out.trans (hb7.mono HB6.out.size))
      have HS := Lib.hid (refSame_any A2 c2 ys hy (by unfold maxLen; omega) A7 c7 ys hy (by unfold maxLen; omega) w7 (HY6.out.below hb7 (Nat.le_refl _)) hw7)
      rw [hyl] at HS
      rw [hyl]
      clear h7 hw7 hb7 H6 HL6 HD6 HB6 HY6 q1
      go_wp2_with fail
      refine HS.out.mono ?_
      rintro e w8 ⟨rfl, m8, rfl⟩
      rw [sameB_self]
      have H8 := Lib.hid (H7.out.drewN m8)
      have HL8 := Lib.hid (HL7.out.drewN m8)
      have HD8 := Lib.hid (HD7.out.drewN m8)
      have HB8 := Lib.hid (HB7.out.drewN m8)
      have q2 : (loadRow 24 (.pointer (some ⟨w.heap.size, 0, none⟩))).run Try.prog (w7.drewN m8) = .ok (.agg (uTab 25 f)) (w7.drewN m8) := H8.out.load Try.underlying24 rfl (by kernel_rfl)
      have q3 : (loadRow 24 (.pointer (some ⟨m3, 0, none⟩))).run Try.prog (w7.drewN m8) = .ok (.agg (uTab 25 L1)) (w7.drewN m8) := HL8.out.load Try.underlying24 rfl (by kernel_rfl)
      have q4 : (loadRow 24 (.pointer (some ⟨m5, 0, none⟩))).run Try.prog (w7.drewN m8) = .ok (.agg (uTab 25 D)) (w7.drewN m8) := HD8.out.load Try.underlying24 rfl (by kernel_rfl)
      clear HS H7 HL7 HD7 HB7 H8 HL8 HD8
      generalize w7.drewN m8 = w9 at *
      go_wp2_with fail
      refine (CD'.out _).mono ?_
      rintro e w10 h10
      obtain ⟨A10, c10, rfl, -, -, -, hw10, hb10⟩ := gives_caps h10
      have HB10 := Lib.hid (HB8.out.trans (hb10.mono HB8.out.size))
      have HS := Lib.hid (refSame_any A10 c10 xs hx (by unfold maxLen; omega) A c xs hx (by unfold maxLen; omega) w10 hw10 (hw.below HB10.out (Nat.le_refl _)))
      clear h10 hw10 hb10 q2 q3 q4 HB8
      go_wp2_with fail
      refine HS.out.mono ?_
      rintro e w11 ⟨rfl, m11, rfl⟩
      rw [sameB_self]
      have HB11 := Lib.hid (HB10.out.drewN m11)
      go_wp2
      go_ret
      exact ⟨rfl, HB11.out⟩
    · have hle : ((xs.length : Int) == 200) = false := by simp; omega
      have CN' := Lib.hid (CN hl)
      clear CY CD CN hl
      go_wp2_with fail
      generalize w3.alloc (.cells (uTab 25 L1) 24) = w4 at *
      generalize w3.heap.size = m3 at *
      refine (CN'.out _ (hw.below HB4.out (Nat.le_refl _))).mono ?_
      rintro e w5 ⟨rfl, hb5⟩
      have H5 := H4.out.call hb5
      have HB5 := HB4.out.trans (hb5.mono HB4.out.size)
      have HY5 := HY4.out.below hb5 (Nat.le_refl _)
      have HL5 := HL4.out.call hb5
      have HD6 := Lib.hid (Hold.new w5 (uTab 25 fun _ => 0) 24 25 (uTab_size _ _))
      have hb6 := (Below.refl w5.heap.size w5).alloc (Nat.le_refl _) (.cells (uTab 25 fun _ => 0) 24)
      have H6 := Lib.hid (H5.call hb6)
      have HL6 := Lib.hid (HL5.call hb6)
      have HB6 := Lib.hid (HB5.trans (hb6.mono HB5.size))
      have HY6 := Lib.hid (HY5.below hb6 (Nat.le_refl _))
      have q1 : (loadRow 24 (.pointer (some ⟨w.heap.size, 0, none⟩))).run Try.prog (w5.alloc (.cells (uTab 25 fun _ => 0) 24)) = .ok (.agg (uTab 25 f)) (w5.alloc (.cells (uTab 25 fun _ => 0) 24)) := H6.out.load Try.underlying24 rfl (by kernel_rfl)
      clear H4 HB4 HY4 HL4 hb5 H5 HB5 HY5 HL5 hb6
      go_wp2_with fail
      generalize w5.alloc (.cells (uTab 25 fun _ => 0) 24) = w6 at *
      generalize w5.heap.size = m5 at *
      refine (CR _).mono ?_
      rintro e w7 h7
      obtain ⟨A7, c7, rfl, -, -, -, hw7, hb7⟩ := gives_caps h7
      have H7 := Lib.hid (H6.out.call hb7)
      have HL7 := Lib.hid (HL6.out.call hb7)
      have HD7 := Lib.hid (HD6.out.call hb7)
      have HB7 := Lib.hid (HB6.out.trans (hb7.mono HB6.out.size))
      have HS := Lib.hid (refSame_any A2 c2 ys hy (by unfold maxLen; omega) A7 c7 ys hy (by unfold maxLen; omega) w7 (HY6.out.below hb7 (Nat.le_refl _)) hw7)
      rw [hyl] at HS
      rw [hyl]
      clear h7 hw7 hb7 H6 HL6 HD6 HB6 HY6 q1
      go_wp2_with fail
      refine HS.out.mono ?_
      rintro e w8 ⟨rfl, m8, rfl⟩
      rw [sameB_self]
      have H8 := Lib.hid (H7.out.drewN m8)
      have HL8 := Lib.hid (HL7.out.drewN m8)
      have HD8 := Lib.hid (HD7.out.drewN m8)
      have HB8 := Lib.hid (HB7.out.drewN m8)
      have q2 : (loadRow 24 (.pointer (some ⟨w.heap.size, 0, none⟩))).run Try.prog (w7.drewN m8) = .ok (.agg (uTab 25 f)) (w7.drewN m8) := H8.out.load Try.underlying24 rfl (by kernel_rfl)
      have q3 : (loadRow 24 (.pointer (some ⟨m3, 0, none⟩))).run Try.prog (w7.drewN m8) = .ok (.agg (uTab 25 L1)) (w7.drewN m8) := HL8.out.load Try.underlying24 rfl (by kernel_rfl)
      have q4 : (loadRow 24 (.pointer (some ⟨m5, 0, none⟩))).run Try.prog (w7.drewN m8) = .ok (.agg (uTab 25 fun _ => 0)) (w7.drewN m8) := HD8.out.load Try.underlying24 rfl (by kernel_rfl)
      clear HS H7 HL7 HD7 HB7 H8 HL8 HD8
      generalize w7.drewN m8 = w9 at *
      go_wp2
      go_ret
      exact ⟨rfl, HB8.out⟩
theorem laneBytes_walk (w : World) (f : Nat → Nat) (hf : ∀ i, f i < 18446744073709551616) (A : Option Addr) (c : Nat) (xs : List Nat) (hx : AllLt 256 xs) (hlc : xs.length ≤ c) (hcm : c ≤ maxLen) (hw : Words .u8 w A xs) :
    Calls Try.prog 3 #[.agg (uTab 25 f), .slice A xs.length c] w fun e w' => e = .returned (.bool true) ∧ Below w.heap.size w w' := by
  have hg : ∀ i, (fun i => xs.getD i 0) i < 256 := fun i => by
    show xs.getD i 0 < 256
    by_cases hi : i < xs.length
    · exact hx.at hi
    · rw [List.getD_eq_getElem?_getD, List.getElem?_eq_none (by omega)]; decide
  refine laneBytes_core w f A c xs hx hlc hcm hw (laneOf fun i => (bytesN f).getD i 0) (laneOf fun i => xs.getD i 0) (bytesN f) (bytesN_lt f) (bytesN_length f)
    (fun W => bytes14_any f hf W) (fun W => refBytes14_any f hf W) (fun W B d h => of_yes B d (bytesN f) (bytesN_lt f) (bytesN_length f) W h)
    (fun h W hW => by rw [h]; exact of_yes A c xs hx h W hW) (fun h W hW => of_no A c xs h (Nat.le_trans hlc hcm) W) (fun h W => ?_)
    (fun W => neqL _ _ (fun j hj => (laneOf_congr j hj fun i hi => bytesN_getD f i hi).trans (laneOf_laneB f j (hf j))) W) (fun W => eqlL _ _ (fun _ _ => rfl) W)
  have := bytes14_any (laneOf fun i => xs.getD i 0) (fun j => laneOf_lt hg j) W
  rwa [bytes_of xs hx h] at this
end Go.Proofs.Ytdjidalmnojbjaa.Ln
