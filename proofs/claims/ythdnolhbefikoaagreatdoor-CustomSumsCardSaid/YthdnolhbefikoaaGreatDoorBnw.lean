/-  -/
import Derived.Test.YthdnolhbefikoaaGreatDoorBns
import Derived.Test.YthdnolhbefikoaaGreatDoorBnv
namespace Go.Proofs.YthdnolhbefikoaaGreatDoor.Co
open Go.Conc
open Go.RowKit L64 Rw Ln Sg Spo Cd
set_option linter.unusedVariables false
set_option linter.unusedSimpArgs false
theorem neq17 (f : Nat → Nat) (w : World) : (binOp .neq 33 (.agg (uTab 25 f)) (.agg (uTab 25 f))).run Star.prog w = .ok (.bool false) w := by
  obtain ⟨i, hi⟩ : ∃ i, Star.prog.info? 31 = some i := Option.isSome_iff_exists.1 (by kernel_rfl)
  have h1 := equalIn_arr (P := Star.prog) w Star.underlying33 Star.underlying31 hi (by kernel_rfl) (n := 25) fun i => ((f i : Nat) : Int)
  show (binOp .neq 33 (.agg (tab 25 fun i => .int .u64 ((f i : Nat) : Int))) (.agg (tab 25 fun i => .int .u64 ((f i : Nat) : Int)))).run Star.prog w = _
  rw [run_neq_struct, h1]
  rfl
def nmL (n m : Nat) : Bool := decide (1100 < n) || decide (1100 < m)
theorem long17_any (A : Option Addr) (n c : Nat) (B : Option Addr) (m d : Nat) (w : World) :
    Calls Star.prog 5 #[.agg #[.slice A n c, .slice B m d]] w fun e w' => e = .returned (.bool (nmL n m)) ∧ Below w.heap.size w w' := by
  have e1 : decide ((1100 : Int) < (n : Int)) = decide (1100 < n) := by simp; omega
  have e2 : decide ((1100 : Int) < (m : Int)) = decide (1100 < m) := by simp; omega
  unfold nmL
  rw [← e1, ← e2]
  clear e1 e2
  go_enter Star.func5, Star.ntmps5
  cases h1 : decide ((1100 : Int) < (n : Int)) <;> (go_wp2; go_ret; exact ⟨rfl, (Below.refl _ _).alloc (Nat.le_refl _) _⟩)
structure F17 (g : Nat) (u : World) (A1 : Option Addr) (n1 c1 : Nat) (xs1 : List Nat) (A2 : Option Addr) (n2 c2 : Nat) (xs2 : List Nat) (A3 : Option Addr) (bs : List Nat) : Prop where
  at' : NmAt u g (.slice A1 n1 c1) (.slice A2 n2 c2)
  nm : NmOk u A1 xs1 A2 xs2
  bw : Words .u8 u A3 bs
  ot : OTab u
section
variable {g : Nat} {u : World} {A1 : Option Addr} {n1 c1 : Nat} {xs1 : List Nat} {A2 : Option Addr} {n2 c2 : Nat} {xs2 : List Nat} {A3 : Option Addr} {bs : List Nat}
theorem F17.lt (h : F17 g u A1 n1 c1 xs1 A2 n2 c2 xs2 A3 bs) : g < u.heap.size := h.at'.hold.lt
theorem F17.below {u' : World} (h : F17 g u A1 n1 c1 xs1 A2 n2 c2 xs2 A3 bs) (hb : Below u.heap.size u u') : F17 g u' A1 n1 c1 xs1 A2 n2 c2 xs2 A3 bs :=
  ⟨h.at'.call hb, h.nm.call hb, h.bw.below hb (Nat.le_refl _), h.ot.below hb (Nat.le_refl _)⟩
theorem F17.taped (h : F17 g u A1 n1 c1 xs1 A2 n2 c2 xs2 A3 bs) (T : Tape) : F17 g (u.taped T) A1 n1 c1 xs1 A2 n2 c2 xs2 A3 bs :=
  ⟨⟨hold_taped h.at'.hold T⟩, ⟨h.nm.x1, h.nm.x2, h.nm.w1, h.nm.w2⟩, h.bw, otab_taped h.ot T⟩
theorem F17.kb {u' : World} (h : F17 g u A1 n1 c1 xs1 A2 n2 c2 xs2 A3 bs) (hb : KB u u') : F17 g u' A1 n1 c1 xs1 A2 n2 c2 xs2 A3 bs := by
  obtain ⟨T, hb⟩ := hb
  exact (h.taped T).below hb
theorem F17.turns {u' : World} {n k : Nat} {c : Array Value} (h : F17 g u A1 n1 c1 xs1 A2 n2 c2 xs2 A3 bs) (ht : Turns n k c u u') (hg : g ≠ n) (h1 : ∀ a, A1 = some a → a.block ≠ n) (h2 : ∀ a, A2 = some a → a.block ≠ n) (h3 : ∀ a, A3 = some a → a.block ≠ n) (ho : 0 ≠ n) : F17 g u' A1 n1 c1 xs1 A2 n2 c2 xs2 A3 bs :=
  ⟨⟨h.at'.hold.turns ht hg⟩, ⟨h.nm.x1, h.nm.x2, words_turns ht h.nm.w1 h1, words_turns ht h.nm.w2 h2⟩, words_turns ht h.bw h3, h.ot.turns ht ho⟩
end
set_option maxRecDepth 20000 in
set_option maxHeartbeats 4000000 in
theorem customSums_goes (W : World) (b : Int) (A1 : Option Addr) (c1 : Nat) (xs1 : List Nat) (A2 : Option Addr) (c2 : Nat) (xs2 : List Nat) (hN : NmOk (ice W) A1 xs1 A2 xs2) (hA1 : ∀ a, A1 = some a → a.block < W.heap.size) (hA2 : ∀ a, A2 = some a → a.block < W.heap.size)
    (A3 : Option Addr) (c3 : Nat) (bs : List Nat) (hbs : AllLt 256 bs) (hlc3 : bs.length ≤ c3) (hw3 : Words .u8 (ice W) A3 bs) (hA3 : ∀ a, A3 = some a → a.block < W.heap.size) (hO : OTab (ice W)) :
    (lawEnv W).Goes (LawStop Star.prog 3 (fun v _ => v = .bool true)) (G (Frame.enter Star.prog 3 #[.int .i64 b, .agg #[.slice A1 xs1.length c1, .slice A2 xs2.length c2], .slice A3 bs.length c3] .normal) [botF]) (ice W) := by
  refine goes_lawT (lawEnv_tight W) (p := 6) (r := fun v => v = .bool true) Star.func3 rfl rfl ?_
  simp only [Star.ntmps3, List.size_toArray, List.length_cons, List.length_nil, Nat.reduceAdd, Nat.reduceSub, Array.replicate_succ, Array.replicate_zero, List.push_toArray, List.append_toArray, List.nil_append, List.cons_append]
  have hof : 0 < W.heap.size := by
    have := block_lt_of_cell (hO.offs 0 _ rfl)
    rw [ice_size] at this
    exact this
  refine KEnv.wk_then (lawEnv_tight W) fun T => ?_
  show Code.wp Star.prog _ _ _ _
  have hw0 : ((ice W).taped T).heap.size = W.heap.size := ice_size
  have F0 : F17 ((ice W).taped T).heap.size (((ice W).taped T).alloc (.cells #[.slice A1 xs1.length c1, .slice A2 xs2.length c2] 24)) A1 xs1.length c1 xs1 A2 xs2.length c2 xs2 A3 bs := by
    have hB := (Below.refl ((ice W).taped T).heap.size ((ice W).taped T)).alloc (Nat.le_refl _) (.cells #[.slice A1 xs1.length c1, .slice A2 xs2.length c2] 24)
    exact ⟨⟨Hold.new _ _ _ 2 rfl⟩, NmOk.call (w := (ice W).taped T) ⟨hN.x1, hN.x2, hN.w1, hN.w2⟩ hB, Words.below (w := (ice W).taped T) hw3 hB (Nat.le_refl _), (otab_taped hO T).below hB (Nat.le_refl _)⟩
  have HS0 := Lib.hid hw0
  clear hw0 hN hw3 hO
  generalize (ice W).taped T = w0 at *
  go_wp2_with fail
  have hg1 := F0.lt
  generalize w0.alloc (.cells #[.slice A1 xs1.length c1, .slice A2 xs2.length c2] 24) = w1 at *
  have hg0 : W.heap.size ≤ w0.heap.size := Nat.le_of_eq HS0.out.symm
  clear HS0
  generalize w0.heap.size = g at *
  refine KEnv.wk_seq (lawEnv_tight W) (KEnv.wk_seq (lawEnv_tight W) (KEnv.wk_region (lawEnv_tight W) ?_))
  show KEnv.Ops (lawEnv W) _ [0, 1] _ _ _
  refine ops_wakes17 W rfl rfl rfl (by omega) fun w2 hK => ?_
  have F2 := F0.kb hK
  clear F0 hK hg1
  show KEnv.Ops (lawEnv W) _ [1] _ (Go.Act.put _ (some 15) _) _
  refine KEnv.ops_value (lawEnv_tight W) (v := .bool false) rfl rfl (fun T => rfl) (KEnv.ops_nil (lawEnv_tight W) ?_)
  show KEnv.Wk (lawEnv W) _ _ (Go.Act.put _ (some 16) _) _
  refine KEnv.wk_endk (lawEnv_tight W) (x := _) (fun a w h => h) fun T => ?_
  show Code.wp Star.prog _ _ _ _
  replace F2 := F2.taped T
  generalize w2.taped T = w3 at *
  simp only [Go.Act.put, List.setIfInBounds_toArray, List.set_cons_succ, List.set_cons_zero]
  go_wp2_with fail
  have HL := Lib.hid (fun w => long17_any A1 xs1.length c1 A2 xs2.length c2 w)
  have HF2 := Lib.hid F2
  clear F2
  by_cases hlong : (nmL xs1.length xs2.length || decide (300 < bs.length)) = true
  · -- more than a statement takes
    refine KEnv.wk_wp (lawEnv_tight W) (fun _ _ _ _ h => h) fun T => ?_
    show Code.wp Star.prog _ _ _ _
    have HF3 := Lib.hid (HF2.out.taped T)
    clear HF2
    generalize w3.taped T = w4 at *
    have q1 := HF3.out.at'.c0
    have q2 := HF3.out.at'.c1
    have hb3 : decide ((300 : Int) < (bs.length : Int)) = decide (300 < bs.length) := by simp; omega
    generalize decide (300 < bs.length) = lb at *
    generalize nmL xs1.length xs2.length = ln at *
    cases ln with
    | true =>
      go_wp2_with (go_at_call 5; refine (HL.out _).mono ?_; rintro e u1 ⟨rfl, hb⟩)
      exact ⟨.inr rfl, rfl, rfl⟩
    | false =>
      have hlb : lb = true := by simpa using hlong
      subst hlb
      go_wp2_with (go_at_call 5; refine (HL.out _).mono ?_; rintro e u1 ⟨rfl, hb⟩)
      exact ⟨.inr rfl, rfl, rfl⟩
  have hlx : nmL xs1.length xs2.length = false ∧ bs.length ≤ 300 := by
    cases h : nmL xs1.length xs2.length <;> simp [h] at hlong ⊢; omega
  obtain ⟨hnl, hbl⟩ := hlx
  rw [hnl] at HL
  have hb3 : decide ((300 : Int) < (bs.length : Int)) = false := decide_eq_false (by omega)
  clear hlong
  have HR17 := Lib.hid (fun w => refRight17_any A1 xs1.length c1 A2 xs2.length c2 w)
  by_cases hb : b = 128 ∨ b = 256
  · by_cases hright : (decide (xs1.length ≤ 1000) && decide (xs2.length ≤ 1000)) = true
    · -- a name that may be
      rw [hright] at HR17
      have hl12 : xs1.length ≤ 1000 ∧ xs2.length ≤ 1000 := by simpa using hright
      obtain ⟨hl1, hl2⟩ := hl12
      obtain ⟨hrB, hr1, hr2, -, -⟩ := rate_ok b hb
      have hR0 : 0 < rateOf b := by omega
      have hplt := px17_lt (rateOf b) HF2.out.nm.x1 HF2.out.nm.x2
      have hcat := wB_append (rateOf b) (px17 (rateOf b) xs1 xs2) bs (fun _ => 0) 0
      have hXlt : AllLt 256 (px17 (rateOf b) xs1 xs2 ++ bs) := by intro x hx; rcases List.mem_append.1 hx with h | h; exact hplt x h; exact hbs x h
      have hf1 := wB_lt (rateOf b) (px17 (rateOf b) xs1 xs2) (fun _ => 0) 0 (fun _ => by show 0 < _; omega) hplt
      have hp1 : (wB (rateOf b) (fun _ => 0) 0 (px17 (rateOf b) xs1 xs2)).2 < rateOf b := by rw [wB_at (rateOf b) hR0 _ _ _ hR0]; exact Nat.mod_lt _ hR0
      have hf2 := wB_lt (rateOf b) (px17 (rateOf b) xs1 xs2 ++ bs) (fun _ => 0) 0 (fun _ => by show 0 < _; omega) hXlt
      have hp2 : (wB (rateOf b) (fun _ => 0) 0 (px17 (rateOf b) xs1 xs2 ++ bs)).2 < rateOf b := by rw [wB_at (rateOf b) hR0 _ _ _ hR0]; exact Nat.mod_lt _ hR0
      have hsl : sufOf xs1 xs2 < 128 := by unfold sufOf; split <;> omega
      have HNr : Hid (∀ V, NmOk V A1 xs1 A2 xs2 → Calls Star.prog 9 #[.int .i64 b, .agg #[.slice A1 xs1.length c1, .slice A2 xs2.length c2]] V fun e w' =>
          e = .returned (.agg (rpC (rateOf b : Nat) (sufOf xs1 xs2 : Nat) (wB (rateOf b) (fun _ => 0) 0 (px17 (rateOf b) xs1 xs2)).1 ((wB (rateOf b) (fun _ => 0) 0 (px17 (rateOf b) xs1 xs2)).2 : Nat) false)) ∧ Below V.heap.size V w') := fun V h => ref17new_any b hb A1 c1 xs1 A2 c2 xs2 V h hl1 hl2
      have HWh : Hid (∀ V, NmOk V A1 xs1 A2 xs2 → Words .u8 V A3 bs → Calls Star.prog 13 #[.int .i64 b, .agg #[.slice A1 xs1.length c1, .slice A2 xs2.length c2], .slice A3 bs.length c3, .int .i64 40] V fun e w' =>
          ∃ A' c', e = .returned (.slice A' 40 c') ∧ Words .u8 w' A' (sqB (rateOf b) 40 (turned (rateOf b) (sufOf xs1 xs2) (wB (rateOf b) (fun _ => 0) 0 (px17 (rateOf b) xs1 xs2 ++ bs)).1 (wB (rateOf b) (fun _ => 0) 0 (px17 (rateOf b) xs1 xs2 ++ bs)).2) 0) ∧ Below V.heap.size V w') := fun V h h3 =>
        ref17whole_any b hb A1 c1 xs1 A2 c2 xs2 A3 c3 bs hbs (by omega) 40 (by omega) V h h3 hl1 hl2
      have HSm : Hid (∀ np V, 0 ≠ np → Sp V np (rateOf b) (sufOf xs1 xs2) (wB (rateOf b) (fun _ => 0) 0 (px17 (rateOf b) xs1 xs2 ++ bs)).1 (wB (rateOf b) (fun _ => 0) 0 (px17 (rateOf b) xs1 xs2 ++ bs)).2 false → OTab V → Calls Star.prog 11 #[.pointer (some ⟨np, 0, none⟩), .int .i64 40] V fun e w' =>
          ∃ A' c', e = .returned (.tuple #[.slice A' 40 c', .int .i64 0]) ∧ Words .u8 w' A' (sqB (rateOf b) 40 (turned (rateOf b) (sufOf xs1 xs2) (wB (rateOf b) (fun _ => 0) 0 (px17 (rateOf b) xs1 xs2 ++ bs)).1 (wB (rateOf b) (fun _ => 0) 0 (px17 (rateOf b) xs1 xs2 ++ bs)).2) 0) ∧ Below V.heap.size V w') := fun np V hnp hs ht => by
        refine (sum_any np (rateOf b) (sufOf xs1 xs2) _ hf2 _ hR0 hr2 (by omega) (by omega) 40 (by omega) V hs ht hnp).mono ?_
        rintro e w' ⟨v, rfl, h1, h2⟩
        have e3 : ∀ f p, rdF (rateOf b) (sufOf xs1 xs2) f p false 40 = turned (rateOf b) (sufOf xs1 xs2) f p := fun f p => if_pos ⟨by omega, rfl⟩
        have e4 : ∀ p, rdP p false 40 = 0 := fun p => if_pos ⟨by omega, rfl⟩
        rw [e3, e4] at h1
        obtain ⟨A', c', hv, hw⟩ := h1.words
        rw [sqB_length] at hv
        exact ⟨A', c', by rw [hv], hw, h2⟩
      have HSa : Hid (∀ V A c B d, Words .u8 V A (sqB (rateOf b) 40 (turned (rateOf b) (sufOf xs1 xs2) (wB (rateOf b) (fun _ => 0) 0 (px17 (rateOf b) xs1 xs2 ++ bs)).1 (wB (rateOf b) (fun _ => 0) 0 (px17 (rateOf b) xs1 xs2 ++ bs)).2) 0) → Words .u8 V B (sqB (rateOf b) 40 (turned (rateOf b) (sufOf xs1 xs2) (wB (rateOf b) (fun _ => 0) 0 (px17 (rateOf b) xs1 xs2 ++ bs)).1 (wB (rateOf b) (fun _ => 0) 0 (px17 (rateOf b) xs1 xs2 ++ bs)).2) 0) → Calls Star.prog 12 #[.slice A 40 c, .slice B 40 d] V fun e w' => e = .returned (.bool true) ∧ Below V.heap.size V w') := fun V A c B d h1 h2 => same_told (sqB_length _ _ _ _) (sqB_lt _ _ _ _) (by omega) V A c B d h1 h2
      have hwp := fun (q : Nat) => wrP_wB bs.length (rateOf b) (wB (rateOf b) (fun _ => 0) 0 (px17 (rateOf b) xs1 xs2)).1 (wB (rateOf b) (fun _ => 0) 0 (px17 (rateOf b) xs1 xs2)).2 bs hR0 hp1 hbs (Nat.le_refl _)
      replace hwp := (hwp 0).trans hcat.symm
      refine KEnv.wk_then (lawEnv_tight W) fun T => ?_
      show Code.wp Star.prog _ _ _ _
      have HF3 := Lib.hid (HF2.out.taped T)
      clear HF2 hright hcat hXlt hplt
      generalize w3.taped T = w4 at *
      have q1 := HF3.out.at'.c0
      have q2 := HF3.out.at'.c1
      go_wp2_with (go_at_call 5; refine (HL.out _).mono ?_; rintro e u1 ⟨rfl, hb⟩; have HF4 := Lib.hid (HF3.out.below hb); clear hb q1 q2)
      clear HF3 hb3
      refine KEnv.wk_seq (lawEnv_tight W) (KEnv.wk_region (lawEnv_tight W) ?_)
      show KEnv.Ops (lawEnv W) _ [0, 1, 2, 3, 4, 5, 6, 7] _ _ _
      refine KEnv.ops_value (lawEnv_tight W) (v := .int .i64 b) rfl rfl (fun T => rfl) ?_
      show KEnv.Ops (lawEnv W) _ [1, 2, 3, 4, 5, 6, 7] _ (Go.Act.put _ (some 25) _) _
      refine KEnv.ops_load (lawEnv_tight W) (v := .agg #[.slice A1 xs1.length c1, .slice A2 xs2.length c2]) rfl rfl rfl (fun T => (HF4.out.taped T).at'.hold.load (T := 24) Star.underlying24 rfl (by kernel_rfl)) ?_
      show KEnv.Ops (lawEnv W) _ [2, 3, 4, 5, 6, 7] _ (Go.Act.put _ (some 26) _) _
      have hlt4 := HF4.out.lt
      refine ops_new17 W rfl rfl rfl b hb A1 c1 xs1 A2 c2 xs2 hl1 hl2 (by rw [map2]; rfl) HF4.out.nm HF4.out.ot hof (by omega) fun v w5 hNew => ?_
      obtain ⟨np, rfl, hnp, hsp, hkb⟩ := hNew
      have hgn : g < np := by omega
      have HF5 := Lib.hid (HF4.out.kb hkb)
      clear hkb HF4 hlt4 hnp
      show KEnv.Ops (lawEnv W) _ (List.range' 3 5) _ (Go.Act.put _ (some 27) _) _
      refine KEnv.ops_tail (lawEnv_tight W) 3 (fun a w T h => KEnv.wk_tape h T) fun T => ?_
      simp only [List.drop_succ_cons, List.drop_zero, Go.Act.put, List.setIfInBounds_toArray, List.set_cons_succ, List.set_cons_zero]
      show wpList Star.prog _ _ _ _ _
      replace HF5 := Lib.hid (HF5.out.taped T)
      have HS5 := Lib.hid (show Sp (w5.taped T) np (rateOf b) (sufOf xs1 xs2) _ _ false from hold_taped hsp T)
      clear hsp
      generalize w5.taped T = w6 at *
      go_wp2_with fail
      have hw1 := congrArg Prod.fst hwp
      have hw2 := congrArg Prod.snd hwp
      have hbb : (b != 128) = false ∨ (b != 128) = true ∧ (b != 256) = false := by
        rcases hb with rfl | rfl
        · exact .inl rfl
        · exact .inr ⟨rfl, rfl⟩
      generalize sqB (rateOf b) 40 (turned (rateOf b) (sufOf xs1 xs2) (wB (rateOf b) (fun _ => 0) 0 (px17 (rateOf b) xs1 xs2 ++ bs)).1 (wB (rateOf b) (fun _ => 0) 0 (px17 (rateOf b) xs1 xs2 ++ bs)).2) 0 = YS at *
      clear hwp hb HL
      generalize (wB (rateOf b) (fun _ => 0) 0 (px17 (rateOf b) xs1 xs2 ++ bs)).1 = f2 at *
      generalize (wB (rateOf b) (fun _ => 0) 0 (px17 (rateOf b) xs1 xs2 ++ bs)).2 = p2 at *
      generalize (wB (rateOf b) (fun _ => 0) 0 (px17 (rateOf b) xs1 xs2)).1 = f at *
      generalize (wB (rateOf b) (fun _ => 0) 0 (px17 (rateOf b) xs1 xs2)).2 = p at *
      generalize sufOf xs1 xs2 = S at *
      generalize rateOf b = R at *
      generalize xs1.length = n1 at *
      generalize xs2.length = n2 at *
      have hnx : g ≠ np := by omega
      have HOF : Hid (0 ≠ np) := Lib.hid (by omega)
      rcases hbb with e1 | ⟨e1, e2⟩
      all_goals
        refine KEnv.wk_spine (lawEnv_tight W) [_, _, _, _, _, _] (x := _) (fun e a w h => ?_) (fun e a w T h => h) fun T => ?_
        · rcases h.1 with h | h
          · exact .inl h
          · exact .inr h
        have HF7 := Lib.hid (HF5.out.taped T)
        have HS7 := Lib.hid (show Sp (w6.taped T) np R S f p false from hold_taped HS5.out T)
        clear HF5 HS5
        generalize w6.taped T = w7 at *
        refine wpSpine_cons ?_
        show Code.wp Star.prog _ _ _ _
        go_wp2_with fail
        have q1 := HF7.out.at'.c0
        have q2 := HF7.out.at'.c1
        refine wpSpine_cons ?_
        show Code.wp Star.prog _ _ _ _
        go_wp2_with (go_at_call 7; refine (HR17.out _).mono ?_; rintro e w8 ⟨rfl, hb8⟩; have HF8 := Lib.hid (HF7.out.below hb8); have HS8 := Lib.hid (HS7.out.call hb8); clear hb8 q1 q2)
        clear HF7 HS7
        refine wpSpine_cons ?_
        show Code.wp Star.prog _ _ _ _
        go_wp2_with fail
        refine wpSpine_cons ?_
        show Code.wp Star.prog _ _ _ _
        go_wp2_with (go_at_call 8; refine (state_any np R S f p false w8 HS8.out).mono ?_; rintro e w9 ⟨rfl, hb9⟩; have hb10 := hb9.trans ((Below.refl w9.heap.size w9).alloc (Nat.le_refl _) (.cells (uTab 25 f) 33) |>.mono hb9.size); have HF10 := Lib.hid (HF8.out.below hb10); have HS10 := Lib.hid (HS8.out.call hb10); have HL10 := Lib.hid (Hold.new w9 (uTab 25 f) 33 25 (uTab_size _ _)); have h1 := uTab_size 25 f; have h2 := uTab_ones 25 f; clear hb9 hb10)
        clear h1 h2 HF8 HS8
        generalize w9.alloc (.cells (uTab 25 f) 33) = w10 at *
        generalize w9.heap.size = gL at *
        have q1 := HF10.out.at'.c0
        have q2 := HF10.out.at'.c1
        refine wpSpine_cons ?_
        show Code.wp Star.prog _ _ _ _
        go_wp2_with (go_at_call 9; refine (HNr.out _ HF10.out.nm).mono ?_; rintro e w11 ⟨rfl, hb11⟩; have hH := Hold.new w11 (rpC 0 0 (fun _ => 0) 0 false) 37 29 (rpC_size _ _ _ _ _); have hst := run_storeR (c' := rpC (R : Nat) (S : Nat) f (p : Nat) false) hH.ok (rpC_size _ _ _ _ _) (rpC_ones _ _ _ _ _); have hbA := (Below.refl w11.heap.size w11).alloc (Nat.le_refl _) (.cells (rpC (R : Nat) (S : Nat) f (p : Nat) false) 37); have hbB := hb11.trans (hbA.mono hb11.size); have HF12 := Lib.hid (HF10.out.below hbB); have HS12 := Lib.hid (HS10.out.call hbB); have HL12 := Lib.hid (HL10.out.call hbB); have HR12 := Lib.hid (Hold.new w11 (rpC (R : Nat) (S : Nat) f (p : Nat) false) 37 29 (rpC_size _ _ _ _ _)); clear hH hbA hbB hb11 q1 q2)
        clear hst HF10 HS10 HL10
        generalize w11.alloc (.cells (rpC (R : Nat) (S : Nat) f (p : Nat) false) 37) = w12 at *
        generalize w11.heap.size = gR at *
        have q4 : (loadRow 33 (.pointer (some ⟨gL, 0, none⟩))).run Star.prog w12 = .ok (.agg (uTab 25 f)) w12 := HL12.out.load Star.underlying33 rfl (by kernel_rfl)
        have q5 := run_loadRp HR12.out
        have q6 := (rpF HR12.out).at'
        have q7 := neq17 f
        generalize uTab 25 f = U at *
        refine wpSpine_cons ?_
        show Code.wp Star.prog _ _ _ _
        go_wp2_with fail
        clear q4 q5 q6 q7 HL12 HR12
        show KEnv.Wk (lawEnv W) _ _ _ _
        refine KEnv.wk_seq (lawEnv_tight W) (KEnv.wk_region (lawEnv_tight W) ?_)
        show KEnv.Ops (lawEnv W) _ [0, 1, 2] _ _ _
        refine KEnv.ops_value (lawEnv_tight W) (v := .pointer (some ⟨np, 0, none⟩)) rfl rfl (fun T => rfl) ?_
        show KEnv.Ops (lawEnv W) _ [1, 2] _ (Go.Act.put _ (some 79) _) _
        refine KEnv.ops_value (lawEnv_tight W) (v := .slice A3 bs.length c3) rfl rfl (fun T => rfl) ?_
        show KEnv.Ops (lawEnv W) _ [2] _ (Go.Act.put _ (some 80) _) _
        refine KEnv.ops_hard (nB := 10) (nC := Tryz.prog.funcs.size) (args := #[.tmp 79, .tmp 80]) rfl rfl (by rw [Star.hard]; rfl) (by have h := fun a b => @hard_no a b; exact h _ _) (fun q hq => by have h := fun a b => @hard_spec a b; exact h _ _ q hq) ?_ callW calleW (Post := WPost w12 np R S f p false bs) (fun ρ fr rs w' vals' J hK hro hrd hv => ?_) (fun v w13 hp => KEnv.ops_nil (lawEnv_tight W) ?_)
        · intro x hx; simp at hx; rcases hx with rfl | rfl <;> trivial
        · exact write_act tight (by show lawB _ = true; kernel_rfl) HS12.out HF12.out.ot HF12.out.bw hbs hlc3 (fun a h => by have := hA3 a h; omega) hf1 (fun _ => hp1) (by omega) (fun h => by
            have h : isCells W np = true := h
            obtain ⟨_, _, _, h⟩ := isCells_get h
            have := (Array.getElem?_eq_some_iff.1 h).1
            omega) HOF.out ρ fr rs w' vals' J hK hro hrd (by rw [map2] at hv; exact hv)
        · obtain ⟨hv, ht⟩ : v = .tuple #[.int .i64 (bs.length : Nat), .int .i64 0] ∧ Turns np 29 (spC R S f2 p2 false) w12 w13 := by
            rcases hp with ⟨h, _⟩ | ⟨_, h1, h2⟩
            · cases h
            · rw [hw1, hw2] at h2
              exact ⟨h1, h2⟩
          subst hv
          show KEnv.Wk (lawEnv W) _ _ (Go.Act.put _ (some 81) _) _
          refine KEnv.wk_wp (lawEnv_tight W) (fun _ _ _ _ h => h) fun T4 => ?_
          show Code.wp Star.prog _ _ _ _
          have HF14 := Lib.hid ((HF12.out.turns ht hnx (fun a h => by have := hA1 a h; omega) (fun a h => by have := hA2 a h; omega) (fun a h => by have := hA3 a h; omega) HOF.out).taped T4)
          have HS14 := Lib.hid (show Sp (w13.taped T4) np R S f2 p2 false from hold_taped ht.row T4)
          clear hp ht HF12 HS12
          generalize w13.taped T4 = w14 at *
          simp only [Go.Act.put, List.setIfInBounds_toArray, List.set_cons_succ, List.set_cons_zero]
          go_wp2_with (first
            | (go_at_call 11; refine (HSm.out np _ HOF.out HS14.out HF14.out.ot).mono ?_; rintro e w15 ⟨A5, c5, rfl, hw5, hb15⟩; have HW15 := Lib.hid hw5; have HF15 := Lib.hid (HF14.out.below hb15); have q1 := HF15.out.at'.c0; have q2 := HF15.out.at'.c1; clear hw5 hb15)
            | (go_at_call 13; refine (HWh.out _ HF15.out.nm HF15.out.bw).mono ?_; rintro e w16 ⟨A6, c6, rfl, hw6, hb16⟩; have HW16 := Lib.hid hw6; have HW16b := Lib.hid (HW15.out.below hb16 (Nat.le_refl _)); clear hw6 hb16 q1 q2)
            | (go_at_call 12; refine (HSa.out _ _ _ _ _ HW16b.out HW16.out).mono ?_; rintro e w17 ⟨rfl, hb17⟩; clear hb17))
          exact ⟨.inr rfl, rfl, rfl⟩
    · -- a name that may not be
      have hright : (decide (xs1.length ≤ 1000) && decide (xs2.length ≤ 1000)) = false := by simpa using hright
      rw [hright] at HR17
      have HNw := Lib.hid (fun w => new17_arg b hb A1 xs1.length c1 A2 xs2.length c2 hright w)
      refine KEnv.wk_wp (lawEnv_tight W) (fun _ _ _ _ h => h) fun T => ?_
      show Code.wp Star.prog _ _ _ _
      have HF3 := Lib.hid (HF2.out.taped T)
      clear HF2 hright
      generalize w3.taped T = w4 at *
      have q1 := HF3.out.at'.c0
      have q2 := HF3.out.at'.c1
      have hbb : (b != 128) = false ∨ (b != 128) = true ∧ (b != 256) = false := by
        rcases hb with rfl | rfl
        · exact .inl rfl
        · exact .inr ⟨rfl, rfl⟩
      clear hb
      rcases hbb with e1 | ⟨e1, e2⟩
      all_goals
        go_wp2_with (first
          | (go_at_call 5; refine (HL.out _).mono ?_; rintro e u1 ⟨rfl, hb⟩; have HF4 := Lib.hid (HF3.out.below hb); replace q1 := HF4.out.at'.c0; replace q2 := HF4.out.at'.c1; clear hb)
          | (go_at_call 6; refine (HNw.out _).mono ?_; rintro e u2 ⟨rfl, hb⟩; have HF5 := Lib.hid (HF4.out.below hb); replace q1 := HF5.out.at'.c0; replace q2 := HF5.out.at'.c1; clear hb)
          | (go_at_call 7; refine (HR17.out _).mono ?_; rintro e u3 ⟨rfl, hb⟩; clear q1 q2 hb))
        exact ⟨.inr rfl, rfl, rfl⟩
  · -- bits that are no cSHAKE's
    have hb1 : b ≠ 128 := fun h => hb (.inl h)
    have hb2 : b ≠ 256 := fun h => hb (.inr h)
    have HNw := Lib.hid (fun w => new17_alg b hb1 hb2 A1 xs1.length c1 A2 xs2.length c2 w)
    refine KEnv.wk_wp (lawEnv_tight W) (fun _ _ _ _ h => h) fun T => ?_
    show Code.wp Star.prog _ _ _ _
    have HF3 := Lib.hid (HF2.out.taped T)
    clear HF2 hb
    generalize w3.taped T = w4 at *
    have q1 := HF3.out.at'.c0
    have q2 := HF3.out.at'.c1
    have e1 : (b != 128) = true := bne_iff_ne.2 hb1
    have e2 : (b != 256) = true := bne_iff_ne.2 hb2
    clear hb1 hb2
    go_wp2_with (first
      | (go_at_call 5; refine (HL.out _).mono ?_; rintro e u1 ⟨rfl, hb⟩; have HF4 := Lib.hid (HF3.out.below hb); replace q1 := HF4.out.at'.c0; replace q2 := HF4.out.at'.c1; clear hb)
      | (go_at_call 6; refine (HNw.out _).mono ?_; rintro e u2 ⟨rfl, hb⟩; clear hb q1 q2))
    exact ⟨.inr rfl, rfl, rfl⟩
end Go.Proofs.YthdnolhbefikoaaGreatDoor.Co
