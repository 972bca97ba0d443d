/- Layer 15: SpongeResumes, walked in private. -/
import Derived.Test.YtopelmhpahohfaaDoorStarw6
import Derived.Test.YtopelmhpahohfaaDoorBns
import Derived.Test.YtopelmhpahohfaaDoorBnh
import Derived.Test.YtopelmhpahohfaaDoorBnq
namespace Go.Proofs.YtopelmhpahohfaaDoor.Co
open Go.Conc
open Go.RowKit L64 Rw Ln Sg Spo
set_option linter.unusedVariables false
set_option linter.unusedSimpArgs false
theorem wr_lt : ∀ (q R : Nat) (f : Nat → Nat) (p : Nat) (xs : List Nat), (∀ i, f i < 18446744073709551616) → AllLt 256 xs → ∀ i, (wrP q R f p xs).1 i < 18446744073709551616
  | 0, _, _, _, _, hf, _ => hf
  | q + 1, R, f, p, xs, hf, hx => by
    unfold wrP
    split
    · exact hf
    · exact wr_lt q R _ _ _ (fun i => absF_lt (hx.take _) i) (hx.drop _)
theorem wr_le : ∀ (q R : Nat) (f : Nat → Nat) (p : Nat) (xs : List Nat), 0 < R → p < R → (wrP q R f p xs).2 < R
  | 0, _, _, _, _, _, hp => hp
  | q + 1, R, f, p, xs, hR, hp => by
    unfold wrP
    split
    · exact hp
    · refine wr_le q R _ _ _ hR ?_
      unfold absP
      rw [List.length_take]
      split <;> omega
/-- The state behind a call of Write. -/
theorem wpost_state {w w1 : World} {np R S : Nat} {f : Nat → Nat} {p : Nat} {rd : Bool} {xs : List Nat} {v : Value} (h : WPost w np R S f p rd xs v w1) (hf : ∀ i, f i < 18446744073709551616) (hx : AllLt 256 xs) (hR : 0 < R) (hp : rd = false → p < R) (hp2 : p ≤ R) :
    ∃ f' p', Turns np 29 (spC R S f' p' rd) w w1 ∧ (∀ i, f' i < 18446744073709551616) ∧ p' ≤ R ∧ (rd = false → p' < R) := by
  rcases h with ⟨rfl, _, h⟩ | ⟨rfl, _, h⟩
  · exact ⟨f, p, h, hf, hp2, hp⟩
  · have := wr_le xs.length R f p xs hR (hp rfl)
    exact ⟨_, _, h, wr_lt _ _ _ _ _ hf hx, by omega, fun _ => this⟩
theorem rdF_lt {R S : Nat} {f : Nat → Nat} {p : Nat} {rd : Bool} {n : Nat} (hf : ∀ i, f i < 18446744073709551616) (i : Nat) : rdF R S f p rd n i < 18446744073709551616 := by
  unfold rdF; split
  · exact turned_lt i
  · exact hf i
theorem rdP_le {R p : Nat} {rd : Bool} {n : Nat} (hp : p ≤ R) : rdP p rd n ≤ R := by unfold rdP; split <;> omega
/-- The state behind a call of Read. -/
theorem read_state {n R S : Nat} {f : Nat → Nat} {p : Nat} {rd : Bool} {N : Nat} {w w' : World} {e : Ending} (h : ReadC n R S f p rd N w e w') (hf : ∀ i, f i < 18446744073709551616) (hR : 0 < R) (hp : p ≤ R) (hp2 : rd = false → p < R) :
    ∃ v f' p' rd', e = .returned (.tuple #[v, .int .i64 0]) ∧ Turns n 29 (spC R S f' p' rd') w w' ∧ (∀ i, f' i < 18446744073709551616) ∧ p' ≤ R ∧ (rd' = false → p' < R) := by
  obtain ⟨v, rfl, _, ht⟩ := h
  refine ⟨v, _, _, _, rfl, ht, sqF_lt R N _ _ (fun i => rdF_lt hf i), sqP_le R hR N _ (rdP_le hp), fun h => ?_⟩
  unfold rdR at h
  rw [Bool.or_eq_false_iff] at h
  have hN : N = 0 := by have := of_decide_eq_false h.2; omega
  subst hN
  show rdP p rd 0 < R
  unfold rdP
  rw [if_neg (by omega)]
  exact hp2 h.1
theorem okB_suf {R S p : Int} {rd : Bool} (h : okB R S p rd = true) : S = 4 ∨ S = 6 ∨ S = 31 := by
  unfold okB at h
  simp only [Bool.and_eq_true] at h
  have h1 := h.1.2
  unfold hasN sufL at h1
  simp at h1
  omega
theorem okB_at {R S p : Int} {rd : Bool} (h : okB R S p rd = true) {p' : Nat} {rd' : Bool} (h1 : p' ≤ R.toNat) (h2 : rd' = false → p' < R.toNat) : okB R S (p' : Nat) rd' = true := by
  have hr := okB_rate h
  unfold okB at h ⊢
  simp only [Bool.and_eq_true] at h ⊢
  refine ⟨h.1, ?_⟩
  unfold placeB
  simp only [Bool.and_eq_true, Bool.or_eq_true, decide_eq_true_eq]
  refine ⟨by omega, ?_⟩
  cases rd' with
  | false => have := h2 rfl; exact .inl (by omega)
  | true =>
    by_cases e : p' = R.toNat
    · exact .inr ⟨rfl, by omega⟩
    · exact .inl (by omega)
theorem same_star (xs : List Nat) (hx : AllLt 256 xs) (hl : xs.length ≤ 1000000) (W : World) (A : Option Addr) (c : Nat) (B : Option Addr) (d : Nat) (hw : Words .u8 W A xs) (hw2 : Words .u8 W B xs) :
    Calls Star.prog 16 #[.slice A xs.length c, .slice B xs.length d] W fun e w' => e = .returned (.bool true) ∧ Below W.heap.size W w' :=
  (refSame_any A c xs hx (by unfold maxLen; omega) B d xs hx (by unfold maxLen; omega) W hw hw2).mono fun e w' h => by
    rw [sameB_self] at h
    obtain ⟨rfl, m, rfl⟩ := h
    exact ⟨rfl, (Below.refl _ _).drewN m⟩
theorem same_told {xs : List Nat} {n : Nat} (hn : xs.length = n) (hx : AllLt 256 xs) (hl : n ≤ 1000000) (W : World) (A : Option Addr) (c : Nat) (B : Option Addr) (d : Nat) (hw : Words .u8 W A xs) (hw2 : Words .u8 W B xs) :
    Calls Star.prog 16 #[.slice A n c, .slice B n d] W fun e w' => e = .returned (.bool true) ∧ Below W.heap.size W w' := by
  subst hn
  exact same_star xs hx hl W A c B d hw hw2
/-- What a call of Read tells, of whichever sponge. -/
theorem read_told (R S : Nat) (f : Nat → Nat) (hf : ∀ i, f i < 18446744073709551616) (p : Nat) (hR : 0 < R) (hR2 : R ≤ 200) (hS : S < 256) (hp : p ≤ R) (rd : Bool) (N : Nat) (hN : N ≤ 1048576) :
    ∃ ys : List Nat, ys.length = N ∧ AllLt 256 ys ∧ ∀ (n : Nat) (w : World), Sp w n R S f p rd → OTab w → 0 ≠ n →
      Calls Star.prog 14 #[.pointer (some ⟨n, 0, none⟩), .int .i64 (N : Nat)] w fun e w' => ∃ v u, e = .returned (.tuple #[v, .int .i64 0]) ∧ Row .u8 5 w.heap.size w' v ys ∧ Turns n 29 u w w' :=
  ⟨_, sqB_length _ _ _ _, sqB_lt _ _ _ _, fun n w hs ht hn => (read_any n R S f hf p hR hR2 hS hp rd N hN w hs ht hn).mono fun e w' ⟨v, h1, h2, h3⟩ => ⟨v, _, h1, h2, h3⟩⟩
set_option maxRecDepth 20000 in
set_option maxHeartbeats 4000000 in
theorem resumes_goes (W : World) (R S : Int) (f : Nat → Nat) (hf : ∀ i, f i < 18446744073709551616) (p : Int) (rd : Bool) (A : Option Addr) (c : Nat) (xs : List Nat) (hx : AllLt 256 xs) (hlc : xs.length ≤ c) (hlm : xs.length ≤ maxLen) (hw : Words .u8 (ice W) A xs) (hA : ∀ a, A = some a → a.block < W.heap.size) (n0 n1 : Nat) (hn0 : n0 < 256) (hn1 : n1 < 256) (hO : OTab (ice W)) :
    (lawEnv W).Goes (LawStop Star.prog 6 (fun v _ => v = .bool true)) (G (Frame.enter Star.prog 6 #[.agg (rpC R S f p rd), .slice A xs.length c, .agg #[.int .u8 (n0 : Int), .int .u8 (n1 : Int)]] .normal) [botF]) (ice W) := by
  refine goes_lawT (lawEnv_tight W) (p := 6) (r := fun v => v = .bool true) Star.func6 rfl rfl ?_
  simp only [Star.ntmps6, List.size_toArray, List.length_cons, List.length_nil, Nat.reduceAdd, Nat.reduceSub, Array.replicate_succ, Array.replicate_zero, List.push_toArray, List.append_toArray, List.nil_append, List.cons_append]
  have HC := rpC_size R S f p rd
  have HO1 := rpC_ones R S f p rd
  have CW : Hid (∀ w, OTab w → Calls Star.prog 7 #[] w fun e w' => e = .returned (.bool true) ∧ Below w.heap.size w w') := fun w h => wakes15_any w h
  have CR : Hid (∀ w, Calls Star.prog 10 #[.agg (rpC R S f p rd)] w fun e w' => e = .returned (.bool (okB R S p rd)) ∧ Below w.heap.size w w') := fun w => right_any R S f p rd w
  by_cases hl : xs.length ≤ 300
  · have hd : decide ((300 : Int) < (xs.length : Int)) = false := decide_eq_false (by omega)
    cases hok : okB R S p rd
    · rw [hok] at CR
      refine KEnv.wk_wp (lawEnv_tight W) (fun _ _ _ _ h => h) fun T => ?_
      have hO2 := otab_taped hO T
      show Code.wp Star.prog _ _ _ _
      generalize (ice W).taped T = w at *
      have HB0 : Hid (Below w.heap.size w ((w.alloc (.cells (rpC R S f p rd) 26)).alloc (.cells #[.int .u8 (n0 : Int), .int .u8 (n1 : Int)] 55))) := ((Below.refl _ w).alloc (Nat.le_refl _) _).alloc (by simp) _
      have HW0 := Lib.hid (hO2.below HB0.out (Nat.le_refl _))
      have HX0 := Lib.hid ((Hold.new w (rpC R S f p rd) 26 29 HC).past (.cells #[.int .u8 (n0 : Int), .int .u8 (n1 : Int)] 55))
      generalize rpC R S f p rd = U at *
      clear hw hO hO2 hx hok
      go_wp2_with (first
        | (go_at_call 7; (with_reducible refine (CW.out _ HW0.out).mono ?_); rintro e w1 ⟨rfl, hb1⟩; have q2 : (loadRow 26 (.pointer (some ⟨w.heap.size, 0, none⟩))).run Star.prog w1 = .ok (.agg U) w1 := (HX0.out.call hb1).load Star.underlying26 rfl (by kernel_rfl))
        | (go_at_call 10; (with_reducible refine (CR.out _).mono ?_); rintro e w2 ⟨rfl, hb2⟩))
      exact ⟨.inr rfl, rfl, rfl⟩
    · have HOK := Lib.hid hok
      rw [hok] at CR
      have hkr := okB_rate hok
      have CF : Hid (∀ w, Calls Star.prog 9 #[.int .i64 R, .int .i64 S, .agg (uTab 25 f), .int .i64 p, .bool rd] w fun e w' => ∃ B, e = .returned (.tuple #[.pointer (some ⟨B, 0, none⟩), .int .i64 0]) ∧ w.heap.size ≤ B ∧ Sp w' B R.toNat S.toNat f p.toNat rd ∧ Below w.heap.size w w') := fun w => (from_any R S p f rd w).mono fun e w' h => h.1 HOK.out
      refine KEnv.wk_spine (lawEnv_tight W) [_, _, _, _, _] (x := _) (fun e a w h => ?_) (fun e a w T h => h) fun T => ?_
      · rcases h.1 with h | h
        · exact .inl h
        · exact .inr h
      have hO2 := otab_taped hO T
      have hw2 : Words .u8 ((ice W).taped T) A xs := hw
      generalize hWT : (ice W).taped T = w at *
      have HB0 : Hid (Below w.heap.size w ((w.alloc (.cells (rpC R S f p rd) 26)).alloc (.cells #[.int .u8 (n0 : Int), .int .u8 (n1 : Int)] 55))) := ((Below.refl _ w).alloc (Nat.le_refl _) _).alloc (by simp) _
      have HW0 := Lib.hid (hO2.below HB0.out (Nat.le_refl _))
      have HX0 := Lib.hid ((Hold.new w (rpC R S f p rd) 26 29 HC).past (.cells #[.int .u8 (n0 : Int), .int .u8 (n1 : Int)] 55))
      have HN0 := Lib.hid (Hold.new1 w (.cells (rpC R S f p rd) 26) #[.int .u8 (n0 : Int), .int .u8 (n1 : Int)] 55 2 rfl)
      have HWd0 := Lib.hid (hw2.below HB0.out (Nat.le_refl _))
      refine wpSpine_cons ?_
      show Code.wp Star.prog _ _ _ _
      go_wp2_with fail
      refine wpSpine_cons ?_
      show Code.wp Star.prog _ _ _ _
      go_wp2_with (go_at_call 7; (with_reducible refine (CW.out _ HW0.out).mono ?_); rintro e w1 ⟨rfl, hb1⟩; have HB1 := Lib.hid (HB0.out.trans (hb1.mono HB0.out.size)); have HX1 := Lib.hid (HX0.out.call hb1); have HN1 := Lib.hid (HN0.out.call hb1); have HT1 := Lib.hid (HW0.out.below hb1 (Nat.le_refl _)); have HWd1 := Lib.hid (HWd0.out.below hb1 (Nat.le_refl _)); clear hb1)
      have q2 : (loadRow 26 (.pointer (some ⟨w.heap.size, 0, none⟩))).run Star.prog w1 = .ok (.agg (rpC R S f p rd)) w1 := HX1.out.load Star.underlying26 rfl (by kernel_rfl)
      refine wpSpine_cons ?_
      show Code.wp Star.prog _ _ _ _
      go_wp2_with (go_at_call 10; (with_reducible refine (CR.out _).mono ?_); rintro e w2 ⟨rfl, hb2⟩; have HB2 := Lib.hid (HB1.out.trans (hb2.mono HB1.out.size)); have HX2 := Lib.hid (HX1.out.call hb2); have HN2 := Lib.hid (HN1.out.call hb2); have HT2 := Lib.hid (HT1.out.below hb2 (Nat.le_refl _)); have HWd2 := Lib.hid (HWd1.out.below hb2 (Nat.le_refl _)); clear hb2)
      clear q2
      have F2 := rpF HX2.out
      have q1 := F2.rate
      have q2 := F2.suf
      have q3 := F2.at'
      have q4 := F2.read
      have q5 := run_loadRp HX2.out
      clear F2
      refine wpSpine_cons ?_
      show Code.wp Star.prog _ _ _ _
      go_wp2_with (go_at_call 9; (with_reducible refine (CF.out _).mono ?_); rintro e w3 ⟨B, rfl, hB, hs, hb3⟩; have HB3 := Lib.hid (HB2.out.trans (hb3.mono HB2.out.size)); have HX3 := Lib.hid (HX2.out.call hb3); have HN3 := Lib.hid (HN2.out.call hb3); have HT3 := Lib.hid (HT2.out.below hb3 (Nat.le_refl _)); have HWd3 := Lib.hid (HWd2.out.below hb3 (Nat.le_refl _)); have HS3 := Lib.hid hs; clear hb3 hs)
      clear q1 q2 q3 q4 q5
      refine wpSpine_cons ?_
      show Code.wp Star.prog _ _ _ _
      go_wp2_with fail
      have hsz : w.heap.size = W.heap.size := by rw [← hWT]; exact ice_size
      have hBW : W.heap.size ≤ B := by rw [← hsz]; exact Nat.le_trans HB2.out.size hB
      have hplace : 0 ≤ p ∧ (p < R ∨ (rd = true ∧ p = R)) := by
        have h := HOK.out
        unfold okB placeB at h
        simp only [Bool.and_eq_true, Bool.or_eq_true, decide_eq_true_eq] at h
        exact h.2
      have hpr : rd = false → p.toNat < R.toNat := fun h => by
        rcases hplace.2 with h1 | h1
        · omega
        · rw [h] at h1; exact absurd h1.1 (by simp)
      have hpr2 : p.toNat ≤ R.toNat := by rcases hplace.2 with h1 | h1 <;> omega
      have hof : 0 ≠ B := by
        have := block_lt_of_cell (hO.offs 0 _ rfl)
        rw [ice_size] at this
        simp only at this
        omega
      show KEnv.Wk (lawEnv W) _ _ _ _
      refine KEnv.wk_seq (lawEnv_tight W) (KEnv.wk_region (lawEnv_tight W) ?_)
      show KEnv.Ops (lawEnv W) _ [0, 1, 2] _ _ _
      refine KEnv.ops_value (lawEnv_tight W) (v := .pointer (some ⟨B, 0, none⟩)) rfl rfl (fun T => rfl) ?_
      show KEnv.Ops (lawEnv W) _ [1, 2] _ (Go.Act.put _ (some 48) _) _
      refine KEnv.ops_value (lawEnv_tight W) (v := .slice A xs.length c) rfl rfl (fun T => rfl) ?_
      show KEnv.Ops (lawEnv W) _ [2] _ (Go.Act.put _ (some 49) _) _
      refine KEnv.ops_hard (nB := 12) (nC := 110) (args := #[.tmp 48, .tmp 49]) rfl rfl rfl (by have h := fun a b => @hard_no a b; rw [Star.hard] at h; exact h _ _) (fun q hq => by have h := fun a b => @hard_spec a b; rw [Star.hard] at h; exact h _ _ q hq) ?_ callW calleW (Post := WPost w3 B R.toNat S.toNat f p.toNat rd xs) (fun ρ fr rs w' vals' J hK hro hrd hv => ?_) (fun v w4 hp => KEnv.ops_nil (lawEnv_tight W) ?_)
      · intro x hx; simp at hx; rcases hx with rfl | rfl <;> trivial
      · exact write_act tight (by show lawB _ = true; kernel_rfl) HS3.out HT3.out HWd3.out hx hlc (fun a h => by have := hA a h; omega) hf hpr (by omega) (fun h => by
          obtain ⟨_, _, _, h⟩ := isCells_get h
          have := (Array.getElem?_eq_some_iff.1 h).1
          omega) hof ρ fr rs w' vals' J hK hro hrd (by rw [map2] at hv; exact hv)
      · obtain ⟨f4, p4, ht, hf4, hp4, hp4'⟩ := wpost_state hp hf hx (by omega) hpr hpr2
        show KEnv.Wk (lawEnv W) _ _ (Go.Act.put _ (some 50) v) _
        refine KEnv.wk_wp (lawEnv_tight W) (fun _ _ _ _ h => h) fun T4 => ?_
        show Code.wp Star.prog _ _ _ _
        have hlt3 := HS3.out.lt
        have HS5 := hold_taped ht.row T4
        have HX5 := hold_taped (HX3.out.turns ht (by have := HN2.out.lt; omega)) T4
        have HN5 := hold_taped (HN3.out.turns ht (by have := HN2.out.lt; omega)) T4
        have HT5 := otab_taped (HT3.out.turns ht hof) T4
        have hlt5 : w3.heap.size ≤ (w4.taped T4).heap.size := ht.size
        generalize w4.taped T4 = w5 at *
        simp only [Go.Act.put, List.setIfInBounds_toArray, List.set_cons_succ, List.set_cons_zero]
        have hS256 : S.toNat < 256 := by have := okB_suf HOK.out; omega
        have hR0 : 0 < R.toNat := by omega
        have hR2 : R.toNat ≤ 200 := by omega
        have HOF := Lib.hid hof
        have hnx : w.heap.size ≠ B := by have := HN2.out.lt; omega
        have hnn : w.heap.size + 1 ≠ B := by have := HN2.out.lt; omega
        have hltB : B < w5.heap.size := by omega
        have CRD := Lib.hid (read_any B R.toNat S.toNat f4 hf4 p4 hR0 hR2 hS256 hp4 rd n0 (by omega) w5 HS5 HT5 hof)
        have c0 : w5.cell? ⟨w.heap.size + 1, 0, none⟩ = some (.int .u8 (n0 : Int)) := HN5.cell rfl
        have HX5' := Lib.hid HX5
        have HN5' := Lib.hid HN5
        have HT5' := Lib.hid HT5
        have hlN : w.heap.size + 1 < w5.heap.size := HN5.lt
        clear HX5 HN5 HT5 HS5 hw hw2 HWd3 HWd2 HWd1 HWd0 hp ht hO hO2 CW CR CF hof hpr hpr2 hplace hBW hlt5 hlt3 hsz hWT hA hB HW0 HX0 HN0
        go_wp2_with (first
          | (go_at_call 14; (with_reducible refine CRD.out.mono ?_); intro e w6 hrc; obtain ⟨v6, f6, p6, rd6, rfl, ht6, hf6, hp6, hp6'⟩ := read_state hrc hf4 hR0 hp4 hp4'; have HS6 := Lib.hid ht6.row; have HX6 := Lib.hid (HX5'.out.turns ht6 hnx); have HN6 := Lib.hid (HN5'.out.turns ht6 hnn); have HT6 := Lib.hid (HT5'.out.turns ht6 HOF.out); have h1 := uTab_size 25 f6; have h2 := uTab_ones 25 f6; have hz6 := ht6.size; clear hrc ht6)
          | (go_at_call 21; (with_reducible refine (state_any B R.toNat S.toNat f6 p6 rd6 w6 HS6.out).mono ?_); rintro e w7 ⟨rfl, hb7⟩; have HS8 := Lib.hid ((HS6.out.call hb7).past (.cells (uTab 25 f6) 24)); have HX8 := Lib.hid ((HX6.out.call hb7).past (.cells (uTab 25 f6) 24)); have HN8 := Lib.hid ((HN6.out.call hb7).past (.cells (uTab 25 f6) 24)); have HT8 := Lib.hid ((HT6.out.below hb7 (Nat.le_refl _)).below ((Below.refl w7.heap.size w7).alloc (Nat.le_refl _) (.cells (uTab 25 f6) 24)) (Nat.le_refl _)); have L8 := Hold.new w7 (uTab 25 f6) 24 25 (uTab_size _ _); have F8 := rpF HX8.out; have q1 := F8.rate; have q2 := F8.suf; have q4 : (loadRow 24 (.pointer (some ⟨w7.heap.size, 0, none⟩))).run Star.prog (w7.alloc (.cells (uTab 25 f6) 24)) = .ok (.agg (uTab 25 f6)) (w7.alloc (.cells (uTab 25 f6) 24)) := L8.load Star.underlying24 rfl (by kernel_rfl); have hz7 := hb7.size; clear hb7 F8 L8)
          | (go_at_call 9; (refine (from_any R S (p6 : Nat) f6 rd6 _).mono ?_; intro e w9 h9; obtain ⟨B2, rfl, hB2, hs9, hb9⟩ := h9.1 (okB_at HOK.out hp6 hp6'); rw [Int.toNat_natCast] at hs9; rw [World.size_alloc] at hB2; obtain ⟨ys, hyl, hyt, hrt⟩ := read_told R.toNat S.toNat f6 hf6 p6 hR0 hR2 hS256 hp6 rd6 n1 (by omega); have HRT := Lib.hid hrt; have HS9 := Lib.hid (HS8.out.call hb9); have HN9 := Lib.hid (HN8.out.call hb9); have HT9 := Lib.hid (HT8.out.below hb9 (Nat.le_refl _)); have HSb9 := Lib.hid hs9; have hof2 : Hid (0 ≠ B2) := Lib.hid (fun e => by have h := HT8.out.lt; rw [World.size_alloc] at h; omega); have c1 : w9.cell? ⟨w.heap.size + 1, 1, none⟩ = some (.int .u8 (n1 : Int)) := HN9.out.cell rfl; have hB9 := hs9.lt; have hBB : B2 ≠ B := (by omega); have hnB : w.heap.size + 1 ≠ B2 := (by omega); have HSM : Hid (∀ W A c B d, Words .u8 W A ys → Words .u8 W B ys → Calls Star.prog 16 #[.slice A n1 c, .slice B n1 d] W fun e w' => e = .returned (.bool true) ∧ Below W.heap.size W w') := Lib.hid (fun W A c B d h1 h2 => same_told hyl hyt (by omega) W A c B d h1 h2); clear h9 hb9 hrt hs9 q1 q2 q4 hyt))
          | (go_at_call 14; (with_reducible refine (HRT.out B w9 HS9.out HT9.out HOF.out).mono ?_); rintro e w10 ⟨v10, u10, rfl, hr10, ht10⟩; obtain ⟨A10, c10, rfl, hw10⟩ := hr10.words; rw [hyl] at hr10 ⊢; have HR10 := Lib.hid hr10; have HSb10 := Lib.hid (HSb9.out.turns ht10 hBB); have HT10 := Lib.hid (HT9.out.turns ht10 HOF.out); have HN10 := Lib.hid (HN9.out.turns ht10 hnn); have c1' : w10.cell? ⟨w.heap.size + 1, 1, none⟩ = some (.int .u8 (n1 : Int)) := HN10.out.cell rfl; clear hr10 ht10 hw10)
          | (go_at_call 14; (with_reducible refine (HRT.out B2 w10 HSb10.out HT10.out hof2.out).mono ?_); rintro e w11 ⟨v11, u11, rfl, hr11, ht11⟩; obtain ⟨A11, c11, rfl, hw11⟩ := hr11.words; rw [hyl]; have HW11 := Lib.hid hw11; have HN11 := Lib.hid (HN10.out.turns ht11 hnB); have HW10 : Hid (Words .u8 w11 A10 ys) := Lib.hid (by obtain ⟨A', c', e', hw'⟩ := (row_turns ht11 HR10.out hB9).words; injection e' with e1 e2 e3; rw [e1]; exact hw'); clear hr11 ht11 hw11)
          | (go_at_call 16; (with_reducible refine (HSM.out _ _ _ _ _ HW10.out HW11.out).mono ?_); rintro e w12 ⟨rfl, hb12⟩; have c1'' : w12.cell? ⟨w.heap.size + 1, 1, none⟩ = some (.int .u8 (n1 : Int)) := (HN11.out.call hb12).cell rfl; clear hb12))
        exact ⟨.inr rfl, rfl, rfl⟩
  · refine KEnv.wk_wp (lawEnv_tight W) (fun _ _ _ _ h => h) fun T => ?_
    have hO2 := otab_taped hO T
    show Code.wp Star.prog _ _ _ _
    generalize (ice W).taped T = w at *
    have hd : decide ((300 : Int) < (xs.length : Int)) = true := decide_eq_true (by omega)
    have HB0 : Hid (Below w.heap.size w ((w.alloc (.cells (rpC R S f p rd) 26)).alloc (.cells #[.int .u8 (n0 : Int), .int .u8 (n1 : Int)] 55))) := ((Below.refl _ w).alloc (Nat.le_refl _) _).alloc (by simp) _
    have HW0 := Lib.hid (hO2.below HB0.out (Nat.le_refl _))
    generalize rpC R S f p rd = U at *
    clear hw hO hO2 hx
    go_wp2_with (go_at_call 7; (with_reducible refine (CW.out _ HW0.out).mono ?_); rintro e w1 ⟨rfl, hb1⟩)
    exact ⟨.inr rfl, rfl, rfl⟩
end Go.Proofs.YtopelmhpahohfaaDoor.Co
