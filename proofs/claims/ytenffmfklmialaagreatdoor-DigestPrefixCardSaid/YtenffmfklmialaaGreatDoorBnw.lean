/-  |  |  -/
import Derived.Test.YtenffmfklmialaaGreatDoorBnv
import Derived.Lib.SlBytesConst
section
namespace Go.Proofs.YtenffmfklmialaaGreatDoor.Co
open Go.Conc
open Go.RowKit L64 Rw Ln Sg Spo Cd Al Dg
set_option linter.unusedVariables false
set_option linter.unusedSimpArgs false
def out19 (k R : Nat) (xs1 xs2 bs : List Nat) (n : Nat) : List Nat := sqB R n (turned R (S19 k xs1 xs2) (wB R (fun _ => 0) 0 (P19 k R xs1 xs2 ++ bs)).1 (wB R (fun _ => 0) 0 (P19 k R xs1 xs2 ++ bs)).2) 0
theorem out19_length (k R : Nat) (xs1 xs2 bs : List Nat) (n : Nat) : (out19 k R xs1 xs2 bs n).length = n := sqB_length _ _ _ _
theorem out19_lt (k R : Nat) (xs1 xs2 bs : List Nat) (n : Nat) : AllLt 256 (out19 k R xs1 xs2 bs n) := sqB_lt _ _ _ _
def ys19 (k R : Nat) (xs1 xs2 bs : List Nat) (many : Int) : List Nat := if readB many then out19 k R xs1 xs2 bs many.toNat else []
def er19 (many : Int) : Nat := if readB many then 0 else 1
def Tell19 (w : World) (ys : List Nat) (e : Nat) (v : Value) (w1 : World) : Prop := KB w w1 ∧ ∃ A c, v = .tuple #[.slice A ys.length c, .int .i64 (e : Nat)] ∧ Words .u8 w1 A ys ∧ ys.length ≤ c
theorem Tell19.taped {w : World} {ys : List Nat} {e : Nat} {v : Value} {w1 : World} (h : Tell19 w ys e v w1) (T : Tape) : Tell19 w ys e v (w1.taped T) := by
  obtain ⟨h1, A, c, h2, h3⟩ := h
  exact ⟨h1.taped T, A, c, h2, h3⟩
theorem sum19 (np R S : Nat) (f : Nat → Nat) (hf : ∀ i, f i < 18446744073709551616) (p : Nat) (hR : 0 < R) (hR2 : R ≤ 200) (hS : S < 256) (hp : p ≤ R) (many : Int) (V : World) (hnp : 4 ≠ np) (hs : Sp V np R S f p false) (ht : OTab V) :
    Calls Star.prog 30 #[.pointer (some ⟨np, 0, none⟩), .int .i64 many] V fun e w' =>
      ∃ A' c', e = .returned (.tuple #[.slice A' (if readB many then sqB R many.toNat (turned R S f p) 0 else []).length c', .int .i64 (er19 many : Nat)]) ∧ Words .u8 w' A' (if readB many then sqB R many.toNat (turned R S f p) 0 else []) ∧ (if readB many then sqB R many.toNat (turned R S f p) 0 else []).length ≤ c' ∧ Below V.heap.size V w' := by
  unfold er19
  cases hr : readB many with
  | true =>
    have hm : 0 ≤ many ∧ many ≤ 1048576 := by unfold readB at hr; simpa using hr
    obtain ⟨N, rfl⟩ := Int.eq_ofNat_of_zero_le hm.1
    rw [if_pos rfl, if_pos rfl, show ((N : Int)).toNat = N from Int.toNat_natCast N]
    refine (sum_any np R S f hf p hR hR2 hS hp N (by omega) V hs ht hnp).mono ?_
    rintro e w' ⟨v, rfl, h1, h2⟩
    have e5 : sqB R N (rdF R S f p false N) (rdP p false N) = sqB R N (turned R S f p) 0 := by
      cases N with
      | zero => rfl
      | succ n =>
        have e3 : rdF R S f p false (n + 1) = turned R S f p := if_pos ⟨by omega, rfl⟩
        have e4 : rdP p false (n + 1) = 0 := if_pos ⟨by omega, rfl⟩
        rw [e3, e4]
    rw [e5] at h1
    obtain ⟨A', c', hv, hw⟩ := h1.words
    rw [hv] at h1
    exact ⟨A', c', by rw [hv]; rfl, hw, (Cd.row_cap h1).1, h2⟩
  | false =>
    rw [if_neg (by decide), if_neg (by decide)]
    refine (sum_bad (.pointer (some ⟨np, 0, none⟩)) many hr V).mono ?_
    rintro e w' ⟨rfl, rfl⟩
    exact ⟨none, 0, rfl, fun i hi => by simp at hi, Nat.le_refl _, Below.refl _ _⟩
set_option maxRecDepth 20000 in
set_option maxHeartbeats 4000000 in
theorem ops_ofSponge (W : World) {ops : Array Oper} {i : Nat} {l : List Nat} {o : Oper} {Q : Exit → Go.Act → World → Prop} {a : Go.Act} {w : World} {args : Array Operand} {ats : Array TypeId} (ho : ops[i]? = some o) (hw : Region.wanted o (yielded ops a.tmps) = true) (hx : o.op = .call { callee := .value (.func 17), args := args, argTypes := ats })
    (alg : Int) (hk : 2 ≤ kdN (idx alg)) (A1 : Option Addr) (c1 : Nat) (xs1 : List Nat) (A2 : Option Addr) (c2 : Nat) (xs2 : List Nat) (hl : kdN (idx alg) = 4 → xs1.length ≤ 1000 ∧ xs2.length ≤ 1000) (A3 : Option Addr) (c3 : Nat) (bs : List Nat) (hbs : AllLt 256 bs) (hlc3 : bs.length ≤ c3) (many : Int)
    (hvals : args.map a.eval = #[.int .i64 alg, .agg #[.slice A1 xs1.length c1, .slice A2 xs2.length c2], .slice A3 bs.length c3, .int .i64 many])
    (hN : NmOk w A1 xs1 A2 xs2) (hw3 : Words .u8 w A3 bs) (hA3 : ∀ a, A3 = some a → a.block < w.heap.size) (hO : OTab w) (hT : ATab w) (hof : 4 < W.heap.size) (hWl : W.heap.size ≤ w.heap.size)
    (cont : ∀ v w1, Tell19 w (ys19 (kdN (idx alg)) (bkN (idx alg)) xs1 xs2 bs many) (er19 many) v w1 → (lawEnv W).Ops ops l Q (a.put o.dst v) w1) : (lawEnv W).Ops ops (i :: l) Q a w := by
  refine KEnv.ops_callK (lawEnv_tight W) ho hw hx (fun args w => by show (callFunc 17 args).run Star.prog w = _; kernel_rfl) Star.func17 rfl (R := Tell19 w (ys19 (kdN (idx alg)) (bkN (idx alg)) xs1 xs2 bs many) (er19 many)) ?_ cont
  rw [hvals]
  simp only [Star.ntmps17, List.size_toArray, List.length_cons, List.length_nil, Nat.reduceAdd, Nat.reduceSub, Array.replicate_succ, Array.replicate_zero, List.push_toArray, List.append_toArray, List.nil_append, List.cons_append]
  clear cont hvals hx hw ho
  obtain ⟨hr1, hr2⟩ := rate19 _ (idx_lt alg) hk
  refine KEnv.wk_then (lawEnv_tight W) fun T => ?_
  show Code.wp Star.prog _ _ _ _
  have F0 := Lib.hid (G19.start (n1 := xs1.length) (c1 := c1) (n2 := xs2.length) (c2 := c2) T hN hw3 hO hT)
  go_wp2_with fail
  generalize (w.taped T).alloc (.cells #[.slice A1 xs1.length c1, .slice A2 xs2.length c2] 29) = w1 at *
  generalize (w.taped T).heap.size = g at *
  refine KEnv.wk_seq (lawEnv_tight W) (KEnv.wk_region (lawEnv_tight W) ?_)
  show KEnv.Ops (lawEnv W) _ [0, 1, 2, 3, 4, 5, 6, 7] _ _ _
  refine KEnv.ops_value (lawEnv_tight W) (v := .int .i64 alg) rfl rfl (fun T => rfl) ?_
  show KEnv.Ops (lawEnv W) _ [1, 2, 3, 4, 5, 6, 7] _ (Go.Act.put _ (some 13) _) _
  refine KEnv.ops_load (lawEnv_tight W) (v := .agg #[.slice A1 xs1.length c1, .slice A2 xs2.length c2]) rfl rfl rfl (fun T => (F0.out.taped T).at'.hold.load (T := 29) Star.underlying29 rfl (by kernel_rfl)) ?_
  show KEnv.Ops (lawEnv W) _ [2, 3, 4, 5, 6, 7] _ (Go.Act.put _ (some 14) _) _
  refine ops_begun W rfl rfl rfl alg hk A1 c1 xs1 A2 c2 xs2 hl (by rw [map2]; rfl) F0.out.nm F0.out.ot F0.out.al hof (Nat.le_trans hWl F0.out.size) fun v w2 hB => ?_
  obtain ⟨np, rfl, hnp, hsp, hkb⟩ := hB
  have hP19 := P19_lt (kdN (idx alg)) (bkN (idx alg)) hN.x1 hN.x2
  have hS19 := S19_lt (kdN (idx alg)) xs1 xs2
  have hR0 : 0 < bkN (idx alg) := hr1
  have hXlt : AllLt 256 (P19 (kdN (idx alg)) (bkN (idx alg)) xs1 xs2 ++ bs) := by intro x hx; rcases List.mem_append.1 hx with h | h; exact hP19 x h; exact hbs x h
  have hcat := wB_append (bkN (idx alg)) (P19 (kdN (idx alg)) (bkN (idx alg)) xs1 xs2) bs (fun _ => 0) 0
  have hf1 := wB_lt (bkN (idx alg)) (P19 (kdN (idx alg)) (bkN (idx alg)) xs1 xs2) (fun _ => 0) 0 (fun _ => by show 0 < _; omega) hP19
  have hp1 : (wB (bkN (idx alg)) (fun _ => 0) 0 (P19 (kdN (idx alg)) (bkN (idx alg)) xs1 xs2)).2 < bkN (idx alg) := by rw [wB_at (bkN (idx alg)) hR0 _ _ _ hR0]; exact Nat.mod_lt _ hR0
  have hf2 := wB_lt (bkN (idx alg)) (P19 (kdN (idx alg)) (bkN (idx alg)) xs1 xs2 ++ bs) (fun _ => 0) 0 (fun _ => by show 0 < _; omega) hXlt
  have hp2 : (wB (bkN (idx alg)) (fun _ => 0) 0 (P19 (kdN (idx alg)) (bkN (idx alg)) xs1 xs2 ++ bs)).2 < bkN (idx alg) := by rw [wB_at (bkN (idx alg)) hR0 _ _ _ hR0]; exact Nat.mod_lt _ hR0
  have hwp := wrP_wB bs.length (bkN (idx alg)) (wB (bkN (idx alg)) (fun _ => 0) 0 (P19 (kdN (idx alg)) (bkN (idx alg)) xs1 xs2)).1 (wB (bkN (idx alg)) (fun _ => 0) 0 (P19 (kdN (idx alg)) (bkN (idx alg)) xs1 xs2)).2 bs hR0 hp1 hbs (Nat.le_refl _)
  replace hwp := hwp.trans hcat.symm
  have HSm := Lib.hid (fun (V : World) (h1 : 4 ≠ np) hs ht => sum19 np (bkN (idx alg)) (S19 (kdN (idx alg)) xs1 xs2) _ hf2 _ hR0 hr2 (by omega) (Nat.le_of_lt hp2) many V h1 hs ht)
  have hyd : (if readB many then sqB (bkN (idx alg)) many.toNat (turned (bkN (idx alg)) (S19 (kdN (idx alg)) xs1 xs2) (wB (bkN (idx alg)) (fun _ => 0) 0 (P19 (kdN (idx alg)) (bkN (idx alg)) xs1 xs2 ++ bs)).1 (wB (bkN (idx alg)) (fun _ => 0) 0 (P19 (kdN (idx alg)) (bkN (idx alg)) xs1 xs2 ++ bs)).2) 0 else []) = ys19 (kdN (idx alg)) (bkN (idx alg)) xs1 xs2 bs many := rfl
  rw [hyd] at HSm
  have hnp2 : w.heap.size ≤ np := Nat.le_trans F0.out.size hnp
  have F2 := Lib.hid (F0.out.next hkb)
  have hw1 := congrArg Prod.fst hwp
  have hw2 := congrArg Prod.snd hwp
  clear hyd hcat hXlt hP19 hkb F0 hN hw3 hO hT hwp hp2 hf2
  generalize ys19 (kdN (idx alg)) (bkN (idx alg)) xs1 xs2 bs many = YS at *
  generalize er19 many = ER at *
  generalize (wB (bkN (idx alg)) (fun _ => 0) 0 (P19 (kdN (idx alg)) (bkN (idx alg)) xs1 xs2 ++ bs)).1 = f2 at *
  generalize (wB (bkN (idx alg)) (fun _ => 0) 0 (P19 (kdN (idx alg)) (bkN (idx alg)) xs1 xs2 ++ bs)).2 = p2 at *
  generalize (wB (bkN (idx alg)) (fun _ => 0) 0 (P19 (kdN (idx alg)) (bkN (idx alg)) xs1 xs2)).1 = f1 at *
  generalize (wB (bkN (idx alg)) (fun _ => 0) 0 (P19 (kdN (idx alg)) (bkN (idx alg)) xs1 xs2)).2 = p1 at *
  generalize S19 (kdN (idx alg)) xs1 xs2 = S at *
  generalize bkN (idx alg) = R at *
  show KEnv.Ops (lawEnv W) _ (List.range' 3 5) _ (Go.Act.put _ (some 15) _) _
  refine KEnv.ops_tail (lawEnv_tight W) 3 (fun a w T h => KEnv.wk_tape h T) fun T => ?_
  simp only [List.drop_succ_cons, List.drop_zero, Go.Act.put, List.setIfInBounds_toArray, List.set_cons_succ, List.set_cons_zero]
  show wpList Star.prog _ _ _ _ _
  replace F2 := Lib.hid (F2.out.taped T)
  have HS2 := Lib.hid (show Sp (w2.taped T) np R S f1 p1 false from hold_taped hsp T)
  clear hsp
  generalize w2.taped T = w3 at *
  go_wp2_with fail
  refine KEnv.wk_then (lawEnv_tight W) fun T => ?_
  show Code.wp Star.prog _ _ _ _
  replace F2 := Lib.hid (F2.out.taped T)
  replace HS2 := Lib.hid (show Sp (w3.taped T) np R S f1 p1 false from hold_taped HS2.out T)
  generalize w3.taped T = w3 at *
  go_wp2_with fail
  refine KEnv.wk_seq (lawEnv_tight W) (KEnv.wk_region (lawEnv_tight W) ?_)
  show KEnv.Ops (lawEnv W) _ [0, 1, 2] _ _ _
  refine KEnv.ops_value (lawEnv_tight W) (v := .pointer (some ⟨np, 0, none⟩)) rfl rfl (fun T => rfl) ?_
  show KEnv.Ops (lawEnv W) _ [1, 2] _ (Go.Act.put _ (some 21) _) _
  refine KEnv.ops_value (lawEnv_tight W) (v := .slice A3 bs.length c3) rfl rfl (fun T => rfl) ?_
  show KEnv.Ops (lawEnv W) _ [2] _ (Go.Act.put _ (some 22) _) _
  have hof2 : 4 ≠ np := by omega
  refine KEnv.ops_hard (nB := 29) (nC := Tryz.prog.funcs.size) (args := #[.tmp 21, .tmp 22]) rfl rfl (by rw [Star.hard]; rfl) (by have h := fun a b => @hard_no a b; exact h _ _) (fun q hq => by have h := fun a b => @hard_spec a b; exact h _ _ q hq) ?_ callW calleW (Post := WPost w3 np R S f1 p1 false bs) (fun ρ fr rs w' vals' J hK hro hrd hv => ?_) (fun v w5 hp => KEnv.ops_nil (lawEnv_tight W) ?_)
  · intro x hx; simp at hx; rcases hx with rfl | rfl <;> trivial
  · exact write_act tight (by show lawB _ = true; kernel_rfl) HS2.out F2.out.ot F2.out.bw hbs hlc3 (fun a h => by have := hA3 a h; omega) hf1 (fun _ => hp1) (by omega) (fun h => by
      have h : isCells W np = true := h
      obtain ⟨_, _, _, h⟩ := isCells_get h
      have := (Array.getElem?_eq_some_iff.1 h).1
      omega) hof2 ρ fr rs w' vals' J hK hro hrd (by rw [map2] at hv; exact hv)
  · obtain ⟨hv, ht⟩ : v = .tuple #[.int .i64 (bs.length : Nat), .int .i64 0] ∧ Turns np 29 (spC R S f2 p2 false) w3 w5 := by
      rcases hp with ⟨h, _⟩ | ⟨_, h1, h2⟩
      · cases h
      · rw [hw1, hw2] at h2
        exact ⟨h1, h2⟩
    subst hv
    have HK5 := Lib.hid (F2.out.kb.far (turns_below ht hnp2 F2.out.size))
    have HO5 := Lib.hid (F2.out.ot.turns ht hof2)
    have HS5 := Lib.hid (show Sp w5 np R S f2 p2 false from ht.row)
    clear hp ht hw1 hw2 F2 HS2
    show KEnv.Wk (lawEnv W) _ _ (Go.Act.put _ (some 23) _) _
    refine KEnv.wk_end (lawEnv_tight W) .ret (M := fun a w1 => a.defers = [] ∧ Tell19 w YS ER (.tuple #[a.tmps.getD 8 undef, a.tmps.getD 9 undef]) w1) (fun a w T h => ⟨h.1, h.2.taped T⟩) (fun a w h => ⟨.inr rfl, h.1, _, results_tmp2 (by rfl) a.tmps Star.prog w, h.2⟩) fun T => ?_
    show Code.wp Star.prog _ _ _ _
    replace HK5 := Lib.hid (HK5.out.taped T)
    replace HO5 := Lib.hid (otab_taped HO5.out T)
    replace HS5 := Lib.hid (show Sp (w5.taped T) np R S f2 p2 false from hold_taped HS5.out T)
    generalize w5.taped T = w6 at *
    simp only [Go.Act.put, List.setIfInBounds_toArray, List.set_cons_succ, List.set_cons_zero]
    go_wp2_with (go_at_call 30; refine (HSm.out _ hof2 HS5.out HO5.out).mono ?_; rintro e w7 ⟨A7, c7, rfl, hw7, hl7, hb7⟩; have HW7 := Lib.hid (And.intro hw7 hl7); have HK7 := Lib.hid (HK5.out.trans (KB.of hb7)); clear hw7 hl7 hb7)
    exact ⟨HK7.out, A7, c7, rfl, HW7.out⟩
set_option maxRecDepth 20000 in
set_option maxHeartbeats 4000000 in
theorem ops_sum19 (W : World) {ops : Array Oper} {i : Nat} {l : List Nat} {o : Oper} {Q : Exit → Go.Act → World → Prop} {a : Go.Act} {w : World} {args : Array Operand} {ats : Array TypeId} (ho : ops[i]? = some o) (hw : Region.wanted o (yielded ops a.tmps) = true) (hx : o.op = .call { callee := .value (.func 11), args := args, argTypes := ats })
    (alg : Int) (hk : 2 ≤ kdN (idx alg)) (A1 : Option Addr) (c1 : Nat) (xs1 : List Nat) (A2 : Option Addr) (c2 : Nat) (xs2 : List Nat) (hc : chk (kdN (idx alg)) xs1 xs2 = 0) (A3 : Option Addr) (c3 : Nat) (bs : List Nat) (hbs : AllLt 256 bs) (hlc3 : bs.length ≤ c3)
    (hvals : args.map a.eval = #[.int .i64 alg, .agg #[.slice A1 xs1.length c1, .slice A2 xs2.length c2], .slice A3 bs.length c3])
    (hN : NmOk w A1 xs1 A2 xs2) (hw3 : Words .u8 w A3 bs) (hA3 : ∀ a, A3 = some a → a.block < w.heap.size) (hO : OTab w) (hT : ATab w) (hof : 4 < W.heap.size) (hWl : W.heap.size ≤ w.heap.size)
    (cont : ∀ v w1, Tell19 w (out19 (kdN (idx alg)) (bkN (idx alg)) xs1 xs2 bs (dgN (idx alg))) 0 v w1 → (lawEnv W).Ops ops l Q (a.put o.dst v) w1) : (lawEnv W).Ops ops (i :: l) Q a w := by
  refine KEnv.ops_callK (lawEnv_tight W) ho hw hx (fun args w => by show (callFunc 11 args).run Star.prog w = _; kernel_rfl) Star.func11 rfl (R := Tell19 w (out19 (kdN (idx alg)) (bkN (idx alg)) xs1 xs2 bs (dgN (idx alg))) 0) ?_ cont
  rw [hvals]
  simp only [Star.ntmps11, List.size_toArray, List.length_cons, List.length_nil, Nat.reduceAdd, Nat.reduceSub, Array.replicate_succ, Array.replicate_zero, List.push_toArray, List.append_toArray, List.nil_append, List.cons_append]
  clear cont hvals hx hw ho
  have hl4 : kdN (idx alg) = 4 → xs1.length ≤ 1000 ∧ xs2.length ≤ 1000 := fun h => by
    unfold chk at hc
    rw [h, if_neg (by decide), if_pos rfl] at hc
    by_cases hr : nmR xs1 xs2 = true
    · unfold nmR at hr; simpa using hr
    · rw [if_neg hr] at hc; cases hc
  have hdg : ∀ i, i < 15 → readB (dgN i : Nat) = true := by decide +kernel
  have hys : ys19 (kdN (idx alg)) (bkN (idx alg)) xs1 xs2 bs (dgN (idx alg) : Nat) = out19 (kdN (idx alg)) (bkN (idx alg)) xs1 xs2 bs (dgN (idx alg)) := by unfold ys19; rw [if_pos (hdg _ (idx_lt alg)), Int.toNat_natCast]
  have her : er19 (dgN (idx alg) : Nat) = 0 := if_pos (hdg _ (idx_lt alg))
  have hk1 : ((kdN (idx alg) : Nat) : Int) = 1 → False := by omega
  have HC := Lib.hid (fun W => check_any alg A1 c1 xs1 A2 c2 xs2 W)
  rw [hc] at HC
  have HK := Lib.hid (fun W h => kind_any alg W h)
  have HD := Lib.hid (fun W h => digest_any alg W h)
  refine KEnv.wk_then (lawEnv_tight W) fun T => ?_
  show Code.wp Star.prog _ _ _ _
  have F0 := Lib.hid (G19.start (n1 := xs1.length) (c1 := c1) (n2 := xs2.length) (c2 := c2) T hN hw3 hO hT)
  go_wp2_with fail
  generalize (w.taped T).alloc (.cells #[.slice A1 xs1.length c1, .slice A2 xs2.length c2] 29) = w1 at *
  generalize (w.taped T).heap.size = g at *
  refine KEnv.wk_then (lawEnv_tight W) fun T => ?_
  show Code.wp Star.prog _ _ _ _
  replace F0 := Lib.hid (F0.out.taped T)
  generalize w1.taped T = w1 at *
  have q1 := F0.out.at'.c0
  have q2 := F0.out.at'.c1
  go_wp2_with (go_at_call 15; refine (HC.out _ F0.out.al F0.out.nm).mono ?_; rintro e u2 ⟨rfl, hb2⟩; replace F0 := Lib.hid (F0.out.call hb2); clear hb2 q1 q2)
  refine KEnv.wk_then (lawEnv_tight W) fun T => ?_
  show Code.wp Star.prog _ _ _ _
  replace F0 := Lib.hid (F0.out.taped T)
  generalize u2.taped T = u3 at *
  have hk1b : (((kdN (idx alg) : Nat) : Int) == 1) = false := beq_eq_false_iff_ne.2 hk1
  clear hk1
  go_wp2_with (go_at_call 18; refine (HK.out _ F0.out.al).mono ?_; rintro e u4 ⟨rfl, hb2⟩; replace F0 := Lib.hid (F0.out.call hb2); clear hb2)
  refine KEnv.wk_seq (lawEnv_tight W) ?_
  have hf0 : ∀ u, KB u4 u → W.heap.size ≤ u.heap.size := fun u h => Nat.le_trans hWl (Nat.le_trans F0.out.size h.size)
  have hA4 : ∀ u, KB u4 u → ∀ a, A3 = some a → a.block < u.heap.size := fun u h a e => Nat.lt_of_lt_of_le (hA3 a e) (Nat.le_trans F0.out.size h.size)
  refine KEnv.wk_steps (lawEnv_tight W) (by show Star.prog.follows .mixedOrders = true; kernel_rfl) [[], [], [], [], [3], [0, 1, 2, 4], [5], [5], [6], [7]] (by kernel_rfl) [23, 24, 25, 26, 27, 28, 29, 30, 6, 7] (by kernel_rfl)
    [isK (.int .i64 alg), isK (.agg #[.slice A1 xs1.length c1, .slice A2 xs2.length c2]), isK (.slice A3 bs.length c3), isK (.int .i64 alg), isK (.int .i64 (dgN (idx alg) : Nat)),
      isTK (out19 (kdN (idx alg)) (bkN (idx alg)) xs1 xs2 bs (dgN (idx alg))).length (out19 (kdN (idx alg)) (bkN (idx alg)) xs1 xs2 bs (dgN (idx alg))) 0, isBK (out19 (kdN (idx alg)) (bkN (idx alg)) xs1 xs2 bs (dgN (idx alg))).length (out19 (kdN (idx alg)) (bkN (idx alg)) xs1 xs2 bs (dgN (idx alg))), isK (.int .i64 0),
      isBK (out19 (kdN (idx alg)) (bkN (idx alg)) xs1 xs2 bs (dgN (idx alg))).length (out19 (kdN (idx alg)) (bkN (idx alg)) xs1 xs2 bs (dgN (idx alg))), isK (.int .i64 0)]
    (KEnv.stepsK_cons ?_ (KEnv.stepsK_cons ?_ (KEnv.stepsK_cons ?_ (KEnv.stepsK_cons ?_ (KEnv.stepsK_cons ?_ (KEnv.stepsK_cons ?_ (KEnv.stepsK_cons ?_ (KEnv.stepsK_cons ?_ (KEnv.stepsK_cons ?_ (KEnv.stepsK_cons ?_ KEnv.stepsK_nil)))))))))) ?_
  · intro L s u lr h hd k
    simp only [actOf, List.foldl_cons, List.foldl_nil, Go.Act.put, List.setIfInBounds_toArray, List.set_cons_succ, List.set_cons_zero] at k ⊢
    exact KEnv.ops_value (lawEnv_tight W) (v := .int .i64 alg) rfl rfl (fun T => rfl) (k _ _ (KB.refl u) rfl)
  · intro L s u lr h hd k
    simp only [actOf, List.foldl_cons, List.foldl_nil, Go.Act.put, List.setIfInBounds_toArray, List.set_cons_succ, List.set_cons_zero] at k ⊢
    exact KEnv.ops_load (lawEnv_tight W) (v := .agg #[.slice A1 xs1.length c1, .slice A2 xs2.length c2]) rfl rfl rfl (fun T => ((F0.out.next h.kb).taped T).at'.hold.load (T := 29) Star.underlying29 rfl (by kernel_rfl)) (k _ _ (KB.refl u) rfl)
  · intro L s u lr h hd k
    simp only [actOf, List.foldl_cons, List.foldl_nil, Go.Act.put, List.setIfInBounds_toArray, List.set_cons_succ, List.set_cons_zero] at k ⊢
    exact KEnv.ops_value (lawEnv_tight W) (v := .slice A3 bs.length c3) rfl rfl (fun T => rfl) (k _ _ (KB.refl u) rfl)
  · intro L s u lr h hd k
    simp only [actOf, List.foldl_cons, List.foldl_nil, Go.Act.put, List.setIfInBounds_toArray, List.set_cons_succ, List.set_cons_zero] at k ⊢
    exact KEnv.ops_value (lawEnv_tight W) (v := .int .i64 alg) rfl rfl (fun T => rfl) (k _ _ (KB.refl u) rfl)
  · intro L s u lr h hd k
    simp only [actOf, List.foldl_cons, List.foldl_nil, Go.Act.put, List.setIfInBounds_toArray, List.set_cons_succ, List.set_cons_zero] at k ⊢
    have e3 : s 26 = .int .i64 alg := h.val 3 (by decide) (hd 3 (by decide))
    refine KEnv.ops_calls (lawEnv_tight W) rfl rfl rfl (vals := #[.int .i64 alg]) (by simp only [List.map_toArray, List.map_cons, List.map_nil]; show #[s 26] = _; rw [e3]) (fun args w => by show (callFunc 20 args).run Star.prog w = _; kernel_rfl) (R := fun v w1 => v = .int .i64 (dgN (idx alg) : Nat) ∧ KB u w1) (fun v w T h => ⟨h.1, h.2.taped T⟩) (fun T => (digest_any alg (u.taped T) (atab_taped (h.kb.atab F0.out.al) T)).mono fun e w' h => ⟨_, h.1, rfl, KB.ofT h.2⟩) fun v w1 h => k v w1 h.2 h.1
  · intro L s u lr h hd k
    simp only [actOf, List.foldl_cons, List.foldl_nil, Go.Act.put, List.setIfInBounds_toArray, List.set_cons_succ, List.set_cons_zero] at k ⊢
    have e0 : s 23 = .int .i64 alg := h.val 0 (by decide) (hd 0 (by decide))
    have e1 : s 24 = .agg #[.slice A1 xs1.length c1, .slice A2 xs2.length c2] := h.val 1 (by decide) (hd 1 (by decide))
    have e2 : s 25 = .slice A3 bs.length c3 := h.val 2 (by decide) (hd 2 (by decide))
    have e4 : s 27 = .int .i64 (dgN (idx alg) : Nat) := h.val 4 (by decide) (hd 4 (by decide))
    have F := F0.out.next h.kb
    refine ops_ofSponge W rfl rfl rfl alg hk A1 c1 xs1 A2 c2 xs2 hl4 A3 c3 bs hbs hlc3 (dgN (idx alg) : Nat) (by simp only [List.map_toArray, List.map_cons, List.map_nil]; show #[s 23, s 24, s 25, s 27] = _; rw [e0, e1, e2, e4]) F.nm F.bw (hA4 _ h.kb) F.ot F.al hof (hf0 _ h.kb) fun v w1 hv => ?_
    rw [hys, her] at hv
    obtain ⟨hkb, A, c, rfl, hws⟩ := hv
    exact k _ _ hkb ⟨A, c, rfl, hws⟩
  · intro L s u lr h hd k
    simp only [actOf, List.foldl_cons, List.foldl_nil, Go.Act.put, List.setIfInBounds_toArray, List.set_cons_succ, List.set_cons_zero] at k ⊢
    obtain ⟨A, c, e, hs⟩ : (isTK _ _ _).says (s 28) u := h.val 5 (by decide) (hd 5 (by decide))
    refine KEnv.ops_value (lawEnv_tight W) (v := .slice A _ c) rfl rfl (fun T => ?_) (k _ _ (KB.refl u) ⟨A, c, rfl, hs⟩)
    show (do pure (Next.value (← Instr.extract (s 28) 0)) : Sem Next).run _ _ = _
    rw [e]; rfl
  · intro L s u lr h hd k
    simp only [actOf, List.foldl_cons, List.foldl_nil, Go.Act.put, List.setIfInBounds_toArray, List.set_cons_succ, List.set_cons_zero] at k ⊢
    obtain ⟨A, c, e, hs⟩ : (isTK _ _ _).says (s 28) u := h.val 5 (by decide) (hd 5 (by decide))
    refine KEnv.ops_value (lawEnv_tight W) (v := .int .i64 0) rfl rfl (fun T => ?_) (k _ _ (KB.refl u) rfl)
    show (do pure (Next.value (← Instr.extract (s 28) 1)) : Sem Next).run _ _ = _
    rw [e]; rfl
  · intro L s u lr h hd k
    simp only [actOf, List.foldl_cons, List.foldl_nil, Go.Act.put, List.setIfInBounds_toArray, List.set_cons_succ, List.set_cons_zero] at k ⊢
    exact KEnv.ops_value (lawEnv_tight W) (v := s 29) rfl rfl (fun T => rfl) (k _ _ (KB.refl u) (h.val 6 (by decide) (hd 6 (by decide))))
  · intro L s u lr h hd k
    simp only [actOf, List.foldl_cons, List.foldl_nil, Go.Act.put, List.setIfInBounds_toArray, List.set_cons_succ, List.set_cons_zero] at k ⊢
    exact KEnv.ops_value (lawEnv_tight W) (v := s 30) rfl rfl (fun T => rfl) (k _ _ (KB.refl u) (h.val 7 (by decide) (hd 7 (by decide))))
  · intro s u hkb hv
    obtain ⟨A, c, e6, hs⟩ : (isBK _ _).says (s 6) u := hv 8 (by decide)
    have e7 : s 7 = .int .i64 0 := hv 9 (by decide)
    refine KEnv.wk_end (lawEnv_tight W) .ret (M := fun a w1 => a.defers = [] ∧ Tell19 w (out19 (kdN (idx alg)) (bkN (idx alg)) xs1 xs2 bs (dgN (idx alg))) 0 (.tuple #[a.tmps.getD 6 undef, a.tmps.getD 7 undef]) w1) (fun a w T h => ⟨h.1, h.2.taped T⟩) (fun a w h => ⟨.inr rfl, h.1, _, results_tmp2 (by rfl) a.tmps Star.prog w, h.2⟩) fun T => ?_
    show Code.wp Star.prog _ _ _ _
    have hB2 : Tell19 w (out19 (kdN (idx alg)) (bkN (idx alg)) xs1 xs2 bs (dgN (idx alg))) 0 (.tuple #[.slice A (out19 (kdN (idx alg)) (bkN (idx alg)) xs1 xs2 bs (dgN (idx alg))).length c, .int .i64 0]) (u.taped T) := Tell19.taped ⟨F0.out.kb.trans hkb, A, c, rfl, hs⟩ T
    generalize u.taped T = u4 at *
    simp only [actOf, List.foldl_cons, List.foldl_nil, Go.Act.put, List.setIfInBounds_toArray, List.set_cons_succ, List.set_cons_zero]
    go_wp2_with fail
    all_goals exact hB2
set_option maxRecDepth 20000 in
set_option maxHeartbeats 4000000 in
theorem ops_read19 (W : World) {ops : Array Oper} {i : Nat} {l : List Nat} {o : Oper} {Q : Exit → Go.Act → World → Prop} {a : Go.Act} {w : World} {args : Array Operand} {ats : Array TypeId} (ho : ops[i]? = some o) (hw : Region.wanted o (yielded ops a.tmps) = true) (hx : o.op = .call { callee := .value (.func 7), args := args, argTypes := ats })
    (alg : Int) (hk : 3 ≤ kdN (idx alg)) (A1 : Option Addr) (c1 : Nat) (xs1 : List Nat) (A2 : Option Addr) (c2 : Nat) (xs2 : List Nat) (hc : chk (kdN (idx alg)) xs1 xs2 = 0) (A3 : Option Addr) (c3 : Nat) (bs : List Nat) (hbs : AllLt 256 bs) (hlc3 : bs.length ≤ c3) (many : Int)
    (hvals : args.map a.eval = #[.int .i64 alg, .agg #[.slice A1 xs1.length c1, .slice A2 xs2.length c2], .slice A3 bs.length c3, .int .i64 many])
    (hN : NmOk w A1 xs1 A2 xs2) (hw3 : Words .u8 w A3 bs) (hA3 : ∀ a, A3 = some a → a.block < w.heap.size) (hO : OTab w) (hT : ATab w) (hof : 4 < W.heap.size) (hWl : W.heap.size ≤ w.heap.size)
    (cont : ∀ v w1, Tell19 w (ys19 (kdN (idx alg)) (bkN (idx alg)) xs1 xs2 bs many) (er19 many) v w1 → (lawEnv W).Ops ops l Q (a.put o.dst v) w1) : (lawEnv W).Ops ops (i :: l) Q a w := by
  refine KEnv.ops_callK (lawEnv_tight W) ho hw hx (fun args w => by show (callFunc 7 args).run Star.prog w = _; kernel_rfl) Star.func7 rfl (R := Tell19 w (ys19 (kdN (idx alg)) (bkN (idx alg)) xs1 xs2 bs many) (er19 many)) ?_ cont
  rw [hvals]
  simp only [Star.ntmps7, List.size_toArray, List.length_cons, List.length_nil, Nat.reduceAdd, Nat.reduceSub, Array.replicate_succ, Array.replicate_zero, List.push_toArray, List.append_toArray, List.nil_append, List.cons_append]
  clear cont hvals hx hw ho
  have hl4 : kdN (idx alg) = 4 → xs1.length ≤ 1000 ∧ xs2.length ≤ 1000 := fun h => by
    unfold chk at hc
    rw [h, if_neg (by decide), if_pos rfl] at hc
    by_cases hr : nmR xs1 xs2 = true
    · unfold nmR at hr; simpa using hr
    · rw [if_neg hr] at hc; cases hc
  have hk34 : (decide (kdN (idx alg) = 3) || decide (kdN (idx alg) = 4)) = true := by have := kd_le _ (idx_lt alg); simp; omega
  have HC := Lib.hid (fun W => check_any alg A1 c1 xs1 A2 c2 xs2 W)
  rw [hc] at HC
  have HR := Lib.hid (fun W h => reads_any alg W h)
  rw [hk34] at HR
  refine KEnv.wk_then (lawEnv_tight W) fun T => ?_
  show Code.wp Star.prog _ _ _ _
  have F0 := Lib.hid (G19.start (n1 := xs1.length) (c1 := c1) (n2 := xs2.length) (c2 := c2) T hN hw3 hO hT)
  go_wp2_with fail
  generalize (w.taped T).alloc (.cells #[.slice A1 xs1.length c1, .slice A2 xs2.length c2] 29) = w1 at *
  generalize (w.taped T).heap.size = g at *
  refine KEnv.wk_then (lawEnv_tight W) fun T => ?_
  show Code.wp Star.prog _ _ _ _
  replace F0 := Lib.hid (F0.out.taped T)
  generalize w1.taped T = w1 at *
  have q1 := F0.out.at'.c0
  have q2 := F0.out.at'.c1
  go_wp2_with (go_at_call 15; refine (HC.out _ F0.out.al F0.out.nm).mono ?_; rintro e u2 ⟨rfl, hb2⟩; replace F0 := Lib.hid (F0.out.call hb2); clear hb2 q1 q2)
  refine KEnv.wk_then (lawEnv_tight W) fun T => ?_
  show Code.wp Star.prog _ _ _ _
  replace F0 := Lib.hid (F0.out.taped T)
  generalize u2.taped T = u3 at *
  go_wp2_with (go_at_call 16; refine (HR.out _ F0.out.al).mono ?_; rintro e u4 ⟨rfl, hb2⟩; replace F0 := Lib.hid (F0.out.call hb2); clear hb2)
  refine KEnv.wk_seq (lawEnv_tight W) (KEnv.wk_region (lawEnv_tight W) ?_)
  show KEnv.Ops (lawEnv W) _ [0, 1, 2, 3, 4, 5, 6, 7, 8] _ _ _
  refine KEnv.ops_value (lawEnv_tight W) (v := .int .i64 alg) rfl rfl (fun T => rfl) ?_
  show KEnv.Ops (lawEnv W) _ [1, 2, 3, 4, 5, 6, 7, 8] _ (Go.Act.put _ (some 20) _) _
  refine KEnv.ops_load (lawEnv_tight W) (v := .agg #[.slice A1 xs1.length c1, .slice A2 xs2.length c2]) rfl rfl rfl (fun T => (F0.out.taped T).at'.hold.load (T := 29) Star.underlying29 rfl (by kernel_rfl)) ?_
  show KEnv.Ops (lawEnv W) _ [2, 3, 4, 5, 6, 7, 8] _ (Go.Act.put _ (some 21) _) _
  refine KEnv.ops_value (lawEnv_tight W) (v := .slice A3 bs.length c3) rfl rfl (fun T => rfl) ?_
  show KEnv.Ops (lawEnv W) _ [3, 4, 5, 6, 7, 8] _ (Go.Act.put _ (some 22) _) _
  refine KEnv.ops_value (lawEnv_tight W) (v := .int .i64 many) rfl rfl (fun T => rfl) ?_
  show KEnv.Ops (lawEnv W) _ [4, 5, 6, 7, 8] _ (Go.Act.put _ (some 23) _) _
  refine ops_ofSponge W rfl rfl rfl alg (by omega) A1 c1 xs1 A2 c2 xs2 hl4 A3 c3 bs hbs hlc3 many (by simp only [List.map_toArray, List.map_cons, List.map_nil]; rfl) F0.out.nm F0.out.bw (fun a e => Nat.lt_of_lt_of_le (hA3 a e) F0.out.size) F0.out.ot F0.out.al hof (Nat.le_trans hWl F0.out.size) fun v w5 hv => ?_
  obtain ⟨hkb, A, c, rfl, hws⟩ := hv
  have HK5 := Lib.hid (F0.out.kb.trans hkb)
  clear hkb F0
  generalize ys19 (kdN (idx alg)) (bkN (idx alg)) xs1 xs2 bs many = YS at *
  generalize er19 many = ER at *
  show KEnv.Ops (lawEnv W) _ (List.range' 5 4) _ (Go.Act.put _ (some 24) _) _
  refine KEnv.ops_tail (lawEnv_tight W) 5 (fun a w T h => KEnv.wk_tape h T) fun T => ?_
  simp only [List.drop_succ_cons, List.drop_zero, Go.Act.put, List.setIfInBounds_toArray, List.set_cons_succ, List.set_cons_zero]
  show wpList Star.prog _ _ _ _ _
  replace HK5 := Lib.hid (HK5.out.taped T)
  have HW5 := Lib.hid (show Words .u8 (w5.taped T) A YS ∧ YS.length ≤ c from hws)
  clear hws
  generalize w5.taped T = w6 at *
  go_wp2_with fail
  refine KEnv.wk_end (lawEnv_tight W) .ret (M := fun a w1 => a.defers = [] ∧ Tell19 w YS ER (.tuple #[a.tmps.getD 8 undef, a.tmps.getD 9 undef]) w1) (fun a w T h => ⟨h.1, h.2.taped T⟩) (fun a w h => ⟨.inr rfl, h.1, _, results_tmp2 (by rfl) a.tmps Star.prog w, h.2⟩) fun T => ?_
  show Code.wp Star.prog _ _ _ _
  have hB2 : Tell19 w YS ER (.tuple #[.slice A YS.length c, .int .i64 (ER : Nat)]) (w6.taped T) := Tell19.taped ⟨HK5.out, A, c, rfl, HW5.out⟩ T
  generalize w6.taped T = w7 at *
  go_wp2_with fail
  all_goals exact hB2
end Go.Proofs.YtenffmfklmialaaGreatDoor.Co
end

section
namespace Go.Proofs.YtenffmfklmialaaGreatDoor.Co
open Go.Conc
open Go.RowKit L64 Rw Ln Sg Spo Cd Al Dg
set_option linter.unusedVariables false
set_option linter.unusedSimpArgs false
def abcN : List Nat := [97, 98, 99]
def abcC : Array Value := #[.int .u8 97, .int .u8 98, .int .u8 99]
theorem abc_lt : AllLt 256 abcN := by intro x h; simp [abcN] at h; omega
theorem nmOk_none (w : World) : NmOk w none [] none [] := ⟨by intro x h; simp at h, by intro x h; simp at h, fun i hi => by simp at hi, fun i hi => by simp at hi⟩
theorem shake_dg : dgN (idx 11) = 32 := by decide +kernel
theorem shake_ys (k R : Nat) (xs : List Nat) : ys19 k R [] [] xs 32 = out19 k R [] [] xs 32 := if_pos (by decide)
theorem tell_taped {n c : Nat} {w : World} {A : Option Addr} {xs : List Nat} (h : Words .u8 w A xs) (T : Tape) : Words .u8 (w.taped T) A xs := h
set_option maxRecDepth 20000 in
set_option maxHeartbeats 4000000 in
theorem ops_wakes19 (W : World) {ops : Array Oper} {i : Nat} {l : List Nat} {o : Oper} {Q : Exit → Go.Act → World → Prop} {a : Go.Act} {w : World} (ho : ops[i]? = some o) (hw : Region.wanted o (yielded ops a.tmps) = true) (hx : o.op = .call { callee := .value (.func 6), args := #[], argTypes := #[] })
    (hO : OTab w) (hT : ATab w) (hof : 4 < W.heap.size) (hWl : W.heap.size ≤ w.heap.size)
    (cont : ∀ w1, KB w w1 → (lawEnv W).Ops ops l Q (a.put o.dst (.bool true)) w1) : (lawEnv W).Ops ops (i :: l) Q a w := by
  refine KEnv.ops_callK (lawEnv_tight W) ho hw hx (fun args w => by show (callFunc 6 args).run Star.prog w = _; kernel_rfl) Star.func6 rfl (R := fun v w1 => v = .bool true ∧ KB w w1) ?_ (fun v w1 ⟨h1, h2⟩ => by subst h1; exact cont w1 h2)
  simp only [Star.ntmps6, List.size_toArray, List.length_cons, List.length_nil, Nat.reduceAdd, Nat.reduceSub, Array.replicate_succ, Array.replicate_zero, List.push_toArray, List.append_toArray, List.nil_append, List.cons_append, List.map_toArray, List.map_nil]
  refine KEnv.wk_then (lawEnv_tight W) fun T => ?_
  show Code.wp Star.prog _ _ _ _
  have HK0 := Lib.hid ((KB.refl w).taped T)
  have hsz : W.heap.size ≤ (w.taped T).heap.size := hWl
  generalize w.taped T = w0 at *
  go_wp2_with fail
  refine KEnv.wk_seq (lawEnv_tight W) (KEnv.wk_region (lawEnv_tight W) ?_)
  show KEnv.Ops (lawEnv W) _ [0, 1, 2, 3, 4, 5, 6, 7, 8] _ _ _
  refine KEnv.ops_value (lawEnv_tight W) (v := .agg #[.slice none 0 0, .slice none 0 0]) rfl rfl (fun T => by show (execOp _ _).run Star.prog _ = _; kernel_rfl) ?_
  show KEnv.Ops (lawEnv W) _ [1, 2, 3, 4, 5, 6, 7, 8] _ (Go.Act.put _ (some 6) _) _
  refine KEnv.ops_new (lawEnv_tight W) (v := .slice (some ⟨w0.heap.size, 0, none⟩) 3 3) (w2 := w0.alloc (.cells abcC 5)) rfl rfl (fun T => by show (execOp _ _).run Star.prog _ = _; kernel_rfl) ?_
  show KEnv.Ops (lawEnv W) _ [2, 3, 4, 5, 6, 7, 8] _ (Go.Act.put _ (some 7) _) _
  refine KEnv.ops_mark (nM := Tryz.prog.funcs.size + 1 + 1) (t := 22) (e := 5) (x := .tmp 7) (C := abcC) (e0 := 5) (fr0 := (0, 0)) (B := w0.heap.size) (n := 3) (c := 3) rfl rfl (by rw [Star.hard]; rfl) (by have h := fun a b => @mark_no a b; rw [Star.hard] at h; exact h _ _) (fun q hq => by have h := fun a b => @mark_spec a b; rw [Star.hard] at h; exact h _ _ q hq) trivial Tryz.underlying22 Tryz.underlying5 rfl (heap_alloc_new _ _) (by decide) (by decide) (fun h => ?_) rfl fun fr => ?_
  · have h : isCells W w0.heap.size = true := h
    obtain ⟨_, _, _, h⟩ := isCells_get h
    have := (Array.getElem?_eq_some_iff.1 h).1
    omega
  rw [KEnv.remark_alloc]
  have HKa := Lib.hid (HK0.out.trans (KB.of ((Below.refl w0.heap.size w0).alloc (Nat.le_refl _) (.cells abcC 5 fr))))
  have HE0 : Words .u8 (w0.alloc (.cells abcC 5 fr)) (some ⟨w0.heap.size, 0, none⟩) abcN := words_row (k := .u8) (t := 5) (fr := fr) (heap_alloc_new w0 _)
  have hga : w0.heap.size < (w0.alloc (.cells abcC 5 fr)).heap.size := by simp
  generalize w0.alloc (.cells abcC 5 fr) = wa at *
  generalize w0.heap.size = g0 at *
  show KEnv.Ops (lawEnv W) _ [3, 4, 5, 6, 7, 8] _ (Go.Act.put _ (some 8) _) _
  refine ops_sum19 W rfl rfl rfl 11 (by decide +kernel) none 0 [] none 0 [] (by decide +kernel) (some ⟨g0, 0, none⟩) 3 abcN abc_lt (by decide) (by simp only [List.map_toArray, List.map_cons, List.map_nil]; rfl) (nmOk_none _) HE0 (fun a h => by cases h; exact hga) (HKa.out.otab hO) (HKa.out.atab hT) hof (by omega) fun v wb hv => ?_
  rw [shake_dg] at hv
  obtain ⟨hkb, A1, c1, rfl, hw1, -⟩ := hv
  have hlen := out19_length (kdN (idx 11)) (bkN (idx 11)) [] [] abcN 32
  have hlt := out19_lt (kdN (idx 11)) (bkN (idx 11)) [] [] abcN 32
  rw [hlen]
  have HKb := Lib.hid (HKa.out.trans hkb)
  show KEnv.Ops (lawEnv W) _ (List.range' 4 5) _ (Go.Act.put _ (some 9) _) _
  refine KEnv.ops_tail (lawEnv_tight W) 4 (fun a w T h => KEnv.wk_tape h T) fun T => ?_
  simp only [List.drop_succ_cons, List.drop_zero, Go.Act.put, List.setIfInBounds_toArray, List.set_cons_succ, List.set_cons_zero]
  show wpList Star.prog _ _ _ _ _
  replace HKb := Lib.hid (HKb.out.taped T)
  have HW1 := Lib.hid (tell_taped (n := 0) (c := 0) hw1 T)
  have hsb : g0 < (wb.taped T).heap.size := Nat.lt_of_lt_of_le hga hkb.size
  have hsW : W.heap.size ≤ (wb.taped T).heap.size := Nat.le_trans (by omega) hkb.size
  clear hkb hw1 hlen hlt HE0 HKa HK0 hga
  generalize wb.taped T = w2 at *
  have HY := Lib.hid (show (out19 (kdN (idx 11)) (bkN (idx 11)) [] [] abcN 32).length = 32 ∧ AllLt 256 (out19 (kdN (idx 11)) (bkN (idx 11)) [] [] abcN 32) from ⟨out19_length _ _ _ _ _ _, out19_lt _ _ _ _ _ _⟩)
  have HRd := Lib.hid (shake_ys (kdN (idx 11)) (bkN (idx 11)) abcN)
  go_wp2_with fail
  refine KEnv.wk_seq (lawEnv_tight W) (KEnv.wk_region (lawEnv_tight W) ?_)
  show KEnv.Ops (lawEnv W) _ [0, 1, 2, 3, 4, 5, 6, 7, 8] _ _ _
  refine KEnv.ops_value (lawEnv_tight W) (v := .agg #[.slice none 0 0, .slice none 0 0]) rfl rfl (fun T => by show (execOp _ _).run Star.prog _ = _; kernel_rfl) ?_
  show KEnv.Ops (lawEnv W) _ [1, 2, 3, 4, 5, 6, 7, 8] _ (Go.Act.put _ (some 13) _) _
  refine KEnv.ops_new (lawEnv_tight W) (v := .slice (some ⟨w2.heap.size, 0, none⟩) 3 3) (w2 := w2.alloc (.cells abcC 5)) rfl rfl (fun T => by show (execOp _ _).run Star.prog _ = _; kernel_rfl) ?_
  show KEnv.Ops (lawEnv W) _ [2, 3, 4, 5, 6, 7, 8] _ (Go.Act.put _ (some 14) _) _
  refine KEnv.ops_mark (nM := Tryz.prog.funcs.size + 1 + 1) (t := 22) (e := 5) (x := .tmp 14) (C := abcC) (e0 := 5) (fr0 := (0, 0)) (B := w2.heap.size) (n := 3) (c := 3) rfl rfl (by rw [Star.hard]; rfl) (by have h := fun a b => @mark_no a b; rw [Star.hard] at h; exact h _ _) (fun q hq => by have h := fun a b => @mark_spec a b; rw [Star.hard] at h; exact h _ _ q hq) trivial Tryz.underlying22 Tryz.underlying5 rfl (heap_alloc_new _ _) (by decide) (by decide) (fun h => ?_) rfl fun fr => ?_
  · have h : isCells W w2.heap.size = true := h
    obtain ⟨_, _, _, h⟩ := isCells_get h
    have := (Array.getElem?_eq_some_iff.1 h).1
    omega
  rw [KEnv.remark_alloc]
  have hbl := (Below.refl w2.heap.size w2).alloc (Nat.le_refl _) (.cells abcC 5 fr)
  have HKc := Lib.hid (HKb.out.trans (KB.of hbl))
  have HW2 := Lib.hid (HW1.out.below hbl (Nat.le_refl _))
  have HE0 : Words .u8 (w2.alloc (.cells abcC 5 fr)) (some ⟨w2.heap.size, 0, none⟩) abcN := words_row (k := .u8) (t := 5) (fr := fr) (heap_alloc_new w2 _)
  have hga : w2.heap.size < (w2.alloc (.cells abcC 5 fr)).heap.size := by simp
  clear hbl HW1 HKb
  generalize w2.alloc (.cells abcC 5 fr) = wa2 at *
  generalize w2.heap.size = g2 at *
  show KEnv.Ops (lawEnv W) _ [3, 4, 5, 6, 7, 8] _ (Go.Act.put _ (some 15) _) _
  refine ops_read19 W rfl rfl rfl 11 (by decide +kernel) none 0 [] none 0 [] (by decide +kernel) (some ⟨g2, 0, none⟩) 3 abcN abc_lt (by decide) 32 (by simp only [List.map_toArray, List.map_cons, List.map_nil]; rfl) (nmOk_none _) HE0 (fun a h => by cases h; exact hga) (HKc.out.otab hO) (HKc.out.atab hT) hof (by omega) fun v wc hv => ?_
  rw [HRd.out, show er19 32 = 0 by decide] at hv
  obtain ⟨hkb, A2, c2, rfl, hw2, -⟩ := hv
  clear HRd
  generalize out19 (kdN (idx 11)) (bkN (idx 11)) [] [] abcN 32 = YS at *
  rw [HY.out.1]
  have HS6 := Lib.hid (fun V A c B d h1 h2 => same_told (n := 32) HY.out.1 HY.out.2 (by decide) V A c B d h1 h2)
  have HKd := Lib.hid (HKc.out.trans hkb)
  have HW3 := Lib.hid (hkb.words HW2.out)
  show KEnv.Ops (lawEnv W) _ (List.range' 4 5) _ (Go.Act.put _ (some 16) _) _
  refine KEnv.ops_tail (lawEnv_tight W) 4 (fun a w T h => KEnv.wk_tape h T) fun T => ?_
  simp only [List.drop_succ_cons, List.drop_zero, Go.Act.put, List.setIfInBounds_toArray, List.set_cons_succ, List.set_cons_zero]
  show wpList Star.prog _ _ _ _ _
  replace HKd := Lib.hid (HKd.out.taped T)
  replace HW3 := Lib.hid (tell_taped (n := 0) (c := 0) HW3.out T)
  have HW4 := Lib.hid (tell_taped (n := 0) (c := 0) hw2 T)
  clear hkb hw2 HE0 HKc hga HY HW2
  generalize wc.taped T = w5 at *
  go_wp2_with fail
  refine KEnv.wk_end (lawEnv_tight W) .ret (M := fun a w1 => a.defers = [] ∧ a.tmps.getD 0 undef = .bool true ∧ KB w w1) (fun a w T h => ⟨h.1, h.2.1, h.2.2.taped T⟩) (fun a w h => ⟨.inr rfl, h.1, _, results_tmp (by rfl) a.tmps Star.prog w, h.2.1, h.2.2⟩) fun T => ?_
  show Code.wp Star.prog _ _ _ _
  replace HKd := Lib.hid (HKd.out.taped T)
  replace HW3 := Lib.hid (tell_taped (n := 0) (c := 0) HW3.out T)
  replace HW4 := Lib.hid (tell_taped (n := 0) (c := 0) HW4.out T)
  generalize w5.taped T = w6 at *
  go_wp2_with (go_at_call 8; refine (HS6.out _ _ _ _ _ HW3.out HW4.out).mono ?_; rintro e w7 ⟨rfl, hb7⟩; have HK7 := Lib.hid (HKd.out.trans (KB.of hb7)); clear hb7)
  all_goals exact HK7.out
end Go.Proofs.YtenffmfklmialaaGreatDoor.Co
end

section
namespace Go.Proofs.YtenffmfklmialaaGreatDoor.Co
open Go.Conc
open Go.RowKit L64 Rw Ln Sg Spo Cd Al Dg
set_option linter.unusedVariables false
set_option linter.unusedSimpArgs false
structure B19 (u : World) (A3 : Option Addr) (bs : List Nat) : Prop where
  bw : Words .u8 u A3 bs
  ot : OTab u
  al : ATab u
theorem B19.next {u u' : World} {A3 : Option Addr} {bs : List Nat} (h : B19 u A3 bs) (hb : KB u u') : B19 u' A3 bs := ⟨hb.words h.bw, hb.otab h.ot, hb.atab h.al⟩
theorem B19.taped {u : World} {A3 : Option Addr} {bs : List Nat} (h : B19 u A3 bs) (T : Tape) : B19 (u.taped T) A3 bs := h.next ((KB.refl u).taped T)
def opn (lg : Bool) : Int := if lg then 12 else 11
def nmd (lg : Bool) : Int := if lg then 14 else 13
theorem opn_kd (lg : Bool) : kdN (idx (opn lg)) = 3 := by cases lg <;> decide +kernel
theorem nmd_kd (lg : Bool) : kdN (idx (nmd lg)) = 4 := by cases lg <;> decide +kernel
theorem nmd_bk (lg : Bool) : bkN (idx (nmd lg)) = bkN (idx (opn lg)) := by cases lg <;> decide +kernel
theorem out_open (R : Nat) (bs : List Nat) (n : Nat) : out19 4 R [] [] bs n = out19 3 R [] [] bs n := rfl
theorem out_take {k m : Nat} (h : k ≤ m) (K R : Nat) (xs ys bs : List Nat) : (out19 K R xs ys bs m).take k = out19 K R xs ys bs k := by
  unfold out19
  obtain ⟨d, rfl⟩ := Nat.exists_eq_add_of_le h
  rw [(sq_add R k d _ _).1, List.take_append_of_le_length (by rw [sqB_length]; exact Nat.le_refl _)]
  exact List.take_of_length_le (by rw [sqB_length]; exact Nat.le_refl _)
theorem ys_small {n : Nat} (h : n ≤ 600) (k R : Nat) (xs1 xs2 bs : List Nat) : ys19 k R xs1 xs2 bs (n : Nat) = out19 k R xs1 xs2 bs n := by
  unfold ys19
  rw [if_pos (by unfold readB; simp; omega), Int.toNat_natCast]
theorem er_small {n : Nat} (h : n ≤ 600) : er19 (n : Nat) = 0 := if_pos (by unfold readB; simp; omega)
section
attribute [local go_sem ↓] cut_hide
set_option maxRecDepth 20000 in
set_option maxHeartbeats 4000000 in
theorem digestPrefix_goes (W : World) (lg : Bool) (A3 : Option Addr) (c3 : Nat) (bs : List Nat) (hbs : AllLt 256 bs) (hlc3 : bs.length ≤ c3) (hw3 : Words .u8 (ice W) A3 bs) (hA3 : ∀ a, A3 = some a → a.block < W.heap.size) (x y : Nat) (hx : x < 256) (hy : y < 256) (hO : OTab (ice W)) (hT : ATab (ice W)) :
    (lawEnv W).Goes (LawStop Star.prog 3 (fun v _ => v = .bool true)) (G (Frame.enter Star.prog 3 #[.bool lg, .slice A3 bs.length c3, .agg #[.int .u8 (x : Nat), .int .u8 (y : Nat)]] .normal) [botF]) (ice W) := by
  refine goes_lawT (lawEnv_tight W) (p := 6) (r := fun v => v = .bool true) Star.func3 rfl rfl ?_
  simp only [Star.ntmps3, List.size_toArray, List.length_cons, List.length_nil, Nat.reduceAdd, Nat.reduceSub, Array.replicate_succ, Array.replicate_zero, List.push_toArray, List.append_toArray, List.nil_append, List.cons_append]
  have hof : 4 < W.heap.size := by
    have := block_lt_of_cell (hO.offs 0 _ rfl)
    rw [ice_size] at this
    exact this
  refine KEnv.wk_then (lawEnv_tight W) fun T => ?_
  show Code.wp Star.prog _ _ _ _
  have hw0 : ((ice W).taped T).heap.size = W.heap.size := ice_size
  have B0 : B19 ((ice W).taped T) A3 bs := B19.taped ⟨hw3, hO, hT⟩ T
  have hbl := (Below.refl ((ice W).taped T).heap.size ((ice W).taped T)).alloc (Nat.le_refl _) (.cells #[.int .u8 (x : Nat), .int .u8 (y : Nat)] 23)
  have BH := Lib.hid (Hold.new ((ice W).taped T) #[.int .u8 (x : Nat), .int .u8 (y : Nat)] 23 2 rfl)
  have B1 := Lib.hid (B0.next (KB.of hbl))
  have hs1 : W.heap.size ≤ (((ice W).taped T).alloc (.cells #[.int .u8 (x : Nat), .int .u8 (y : Nat)] 23)).heap.size := by have := hbl.size; omega
  have HS1 := Lib.hid hs1
  clear hw0 hs1 hw3 hO hT B0 hbl
  generalize (ice W).taped T = w0 at *
  go_wp2_with fail
  generalize w0.alloc (.cells #[.int .u8 (x : Nat), .int .u8 (y : Nat)] 23) = w1 at *
  generalize w0.heap.size = g at *
  refine KEnv.wk_seq (lawEnv_tight W) (KEnv.wk_seq (lawEnv_tight W) (KEnv.wk_region (lawEnv_tight W) ?_))
  show KEnv.Ops (lawEnv W) _ [0, 1] _ _ _
  refine ops_wakes19 W rfl rfl rfl B1.out.ot B1.out.al hof HS1.out fun w2 hK => ?_
  have B2 := Lib.hid (B1.out.next hK)
  have BH2 := Lib.hid (show Hold w2 g 2 _ by obtain ⟨T, h⟩ := hK; exact Hold.call (hold_taped BH.out T) h)
  have HS2 := Lib.hid (Nat.le_trans HS1.out hK.size)
  clear B1 BH HS1 hK
  show KEnv.Ops (lawEnv W) _ [1] _ (Go.Act.put _ (some 15) _) _
  refine KEnv.ops_value (lawEnv_tight W) (v := .bool false) rfl rfl (fun T => rfl) (KEnv.ops_nil (lawEnv_tight W) ?_)
  show KEnv.Wk (lawEnv W) _ _ (Go.Act.put _ (some 16) _) _
  refine KEnv.wk_endk (lawEnv_tight W) (x := _) (fun a w h => h) fun T => ?_
  show Code.wp Star.prog _ _ _ _
  replace B2 := Lib.hid (B2.out.taped T)
  replace BH2 := Lib.hid (hold_taped BH2.out T)
  replace HS2 := Lib.hid (show W.heap.size ≤ (w2.taped T).heap.size from HS2.out)
  generalize w2.taped T = w3 at *
  simp only [Go.Act.put, List.setIfInBounds_toArray, List.set_cons_succ, List.set_cons_zero]
  go_wp2_with fail
  by_cases hlong : 400 < bs.length
  · refine KEnv.wk_wp (lawEnv_tight W) (fun _ _ _ _ h => h) fun T => ?_
    show Code.wp Star.prog _ _ _ _
    have hb3 : decide ((400 : Int) < (bs.length : Int)) = true := decide_eq_true (by omega)
    clear hlong hlc3
    generalize bs.length = n3 at *
    go_wp2_with fail
    exact ⟨.inr rfl, rfl, rfl⟩
  have hb3 : decide ((400 : Int) < (bs.length : Int)) = false := decide_eq_false (by omega)
  clear hlong
  refine KEnv.wk_then (lawEnv_tight W) fun T => ?_
  show Code.wp Star.prog _ _ _ _
  replace B2 := Lib.hid (B2.out.taped T)
  replace BH2 := Lib.hid (hold_taped BH2.out T)
  replace HS2 := Lib.hid (show W.heap.size ≤ (w3.taped T).heap.size from HS2.out)
  generalize w3.taped T = w3 at *
  go_wp2_with fail
  clear hb3
  refine KEnv.wk_then (lawEnv_tight W) fun T => ?_
  show Code.wp Star.prog _ _ _ _
  replace B2 := Lib.hid (B2.out.taped T)
  replace BH2 := Lib.hid (hold_taped BH2.out T)
  replace HS2 := Lib.hid (show W.heap.size ≤ (w3.taped T).heap.size from HS2.out)
  generalize w3.taped T = w3 at *
  go_wp2_with fail
  obtain ⟨k, hk⟩ : ∃ k : Nat, min (x : Int) (y : Int) = (k : Int) := ⟨min x y, by omega⟩
  obtain ⟨m, hm⟩ : ∃ m : Nat, max (x : Int) (y : Int) = (m : Int) := ⟨max x y, by omega⟩
  have hkm : k ≤ m ∧ m ≤ 255 := by omega
  have HKM := Lib.hid hkm
  have hj : ∀ (u : World), Hold u g 2 #[.int .u8 (x : Nat), .int .u8 (y : Nat)] → u.cell? ⟨g, 0, none⟩ = some (.int .u8 (x : Nat)) ∧ u.cell? ⟨g, 1, none⟩ = some (.int .u8 (y : Nat)) := fun u h => ⟨h.cell rfl, h.cell rfl⟩
  have hwx : IntKind.i64.wrap (x : Int) = (x : Int) := by rw [IntKind.wrap_i64]; omega
  have hwy : IntKind.i64.wrap (y : Int) = (y : Int) := by rw [IntKind.wrap_i64]; omega
  clear hkm hx hy
  have HX := Lib.hid (And.intro (opn_kd lg) (And.intro (nmd_kd lg) (nmd_bk lg)))
  obtain ⟨alg1, ha1⟩ : ∃ alg1 : Int, alg1 = opn lg := ⟨_, rfl⟩
  obtain ⟨alg2, ha2⟩ : ∃ alg2 : Int, alg2 = nmd lg := ⟨_, rfl⟩
  rw [← ha1, ← ha2] at HX
  have HA1 := Lib.hid ha1
  have HA2 := Lib.hid ha2
  clear ha1 ha2
  cases lg
  all_goals
    refine KEnv.wk_then (lawEnv_tight W) fun T => ?_
    show Code.wp Star.prog _ _ _ _
    replace B2 := Lib.hid (B2.out.taped T)
    replace BH2 := Lib.hid (hold_taped BH2.out T)
    replace HS2 := Lib.hid (show W.heap.size ≤ (w3.taped T).heap.size from HS2.out)
    generalize w3.taped T = w3 at *
    go_wp2_with fail
    refine KEnv.wk_then (lawEnv_tight W) fun T => ?_
    show Code.wp Star.prog _ _ _ _
    replace B2 := Lib.hid (B2.out.next (((KB.refl w3).taped T).trans (KB.drew _)))
    have BH3 := (hold_taped BH2.out T).drew
    replace HS2 := Lib.hid (show W.heap.size ≤ (w3.taped T).drew.heap.size from HS2.out)
    obtain ⟨q1, q2⟩ := hj _ BH3
    clear hj BH3 BH2
    generalize hW4 : (w3.taped T).drew = w4 at *
    refine still_all (by kernel_rfl) (by kernel_rfl) w4 hW4 ?_
    clear hW4
    repeat still_step
    refine wpStill_nil ?_
    clear q1 q2 hwx hwy
    refine ⟨rfl, ?_⟩
    clear hk hm
    refine KEnv.wk_seq (lawEnv_tight W) (KEnv.wk_region (lawEnv_tight W) ?_)
    show KEnv.Ops (lawEnv W) _ [0, 1, 2, 3, 4, 5, 6, 7, 8, 9] _ _ _
    refine KEnv.ops_value (lawEnv_tight W) (v := .int .i64 alg1) rfl rfl (fun T => by rw [HA1.out]; rfl) ?_
    show KEnv.Ops (lawEnv W) _ [1, 2, 3, 4, 5, 6, 7, 8, 9] _ (Go.Act.put _ (some 36) _) _
    refine KEnv.ops_value (lawEnv_tight W) (v := .agg #[.slice none 0 0, .slice none 0 0]) rfl rfl (fun T => by show (execOp _ _).run Star.prog _ = _; kernel_rfl) ?_
    show KEnv.Ops (lawEnv W) _ [2, 3, 4, 5, 6, 7, 8, 9] _ (Go.Act.put _ (some 37) _) _
    refine KEnv.ops_value (lawEnv_tight W) (v := .slice A3 bs.length c3) rfl rfl (fun T => rfl) ?_
    show KEnv.Ops (lawEnv W) _ [3, 4, 5, 6, 7, 8, 9] _ (Go.Act.put _ (some 38) _) _
    refine KEnv.ops_value (lawEnv_tight W) (v := .int .i64 (k : Nat)) rfl rfl (fun T => rfl) ?_
    show KEnv.Ops (lawEnv W) _ [4, 5, 6, 7, 8, 9] _ (Go.Act.put _ (some 39) _) _
    refine ops_read19 W rfl rfl rfl alg1 (by have := HX.out.1; omega) none 0 [] none 0 [] (by rw [HX.out.1]; rfl) A3 c3 bs hbs hlc3 (k : Nat) (by simp only [List.map_toArray, List.map_cons, List.map_nil]; rfl) (nmOk_none _) B2.out.bw (fun a h => Nat.lt_of_lt_of_le (hA3 a h) HS2.out) B2.out.ot B2.out.al hof HS2.out fun v w5 hv => ?_
    rw [ys_small (by have := HKM.out; omega), er_small (by have := HKM.out; omega), HX.out.1] at hv
    obtain ⟨hkb, A1, c1, rfl, hw1, hl1⟩ := hv
    rw [out19_length] at hl1 ⊢
    replace B2 := Lib.hid (B2.out.next hkb)
    replace HS2 := Lib.hid (Nat.le_trans HS2.out hkb.size)
    show KEnv.Ops (lawEnv W) _ (List.range' 5 5) _ (Go.Act.put _ (some 40) _) _
    refine KEnv.ops_tail (lawEnv_tight W) 5 (fun a w T h => KEnv.wk_tape h T) fun T => ?_
    simp only [List.drop_succ_cons, List.drop_zero, Go.Act.put, List.setIfInBounds_toArray, List.set_cons_succ, List.set_cons_zero]
    show wpList Star.prog _ _ _ _ _
    replace B2 := Lib.hid (B2.out.taped T)
    replace HS2 := Lib.hid (show W.heap.size ≤ (w5.taped T).heap.size from HS2.out)
    have HW1 := Lib.hid (tell_taped (n := 0) (c := 0) hw1 T)
    clear hkb hw1 hl1
    generalize w5.taped T = w6 at *
    go_wp2_with fail
    refine KEnv.wk_seq (lawEnv_tight W) (KEnv.wk_region (lawEnv_tight W) ?_)
    show KEnv.Ops (lawEnv W) _ [0, 1, 2, 3, 4, 5, 6, 7, 8, 9] _ _ _
    refine KEnv.ops_value (lawEnv_tight W) (v := .int .i64 alg2) rfl rfl (fun T => by rw [HA2.out]; rfl) ?_
    show KEnv.Ops (lawEnv W) _ [1, 2, 3, 4, 5, 6, 7, 8, 9] _ (Go.Act.put _ (some 44) _) _
    refine KEnv.ops_value (lawEnv_tight W) (v := .agg #[.slice none 0 0, .slice none 0 0]) rfl rfl (fun T => by show (execOp _ _).run Star.prog _ = _; kernel_rfl) ?_
    show KEnv.Ops (lawEnv W) _ [2, 3, 4, 5, 6, 7, 8, 9] _ (Go.Act.put _ (some 45) _) _
    refine KEnv.ops_value (lawEnv_tight W) (v := .slice A3 bs.length c3) rfl rfl (fun T => rfl) ?_
    show KEnv.Ops (lawEnv W) _ [3, 4, 5, 6, 7, 8, 9] _ (Go.Act.put _ (some 46) _) _
    refine KEnv.ops_value (lawEnv_tight W) (v := .int .i64 (m : Nat)) rfl rfl (fun T => rfl) ?_
    show KEnv.Ops (lawEnv W) _ [4, 5, 6, 7, 8, 9] _ (Go.Act.put _ (some 47) _) _
    refine ops_read19 W rfl rfl rfl alg2 (by have := HX.out.2.1; omega) none 0 [] none 0 [] (by rw [HX.out.2.1]; rfl) A3 c3 bs hbs hlc3 (m : Nat) (by simp only [List.map_toArray, List.map_cons, List.map_nil]; rfl) (nmOk_none _) B2.out.bw (fun a h => Nat.lt_of_lt_of_le (hA3 a h) HS2.out) B2.out.ot B2.out.al hof HS2.out fun v w7 hv => ?_
    rw [ys_small (by have := HKM.out; omega), er_small (by have := HKM.out; omega), HX.out.2.1, HX.out.2.2, out_open] at hv
    obtain ⟨hkb, A2, c2, rfl, hw2, hl2⟩ := hv
    rw [out19_length] at hl2 ⊢
    have HW1' := Lib.hid (hkb.words HW1.out)
    show KEnv.Ops (lawEnv W) _ (List.range' 5 5) _ (Go.Act.put _ (some 48) _) _
    refine KEnv.ops_tail (lawEnv_tight W) 5 (fun a w T h => KEnv.wk_tape h T) fun T => ?_
    simp only [List.drop_succ_cons, List.drop_zero, Go.Act.put, List.setIfInBounds_toArray, List.set_cons_succ, List.set_cons_zero]
    show wpList Star.prog _ _ _ _ _
    have HW2 := Lib.hid (tell_taped (n := 0) (c := 0) hw2 T)
    replace HW1' := Lib.hid (tell_taped (n := 0) (c := 0) HW1'.out T)
    have HL2 := Lib.hid hl2
    clear hkb hw2 hl2 B2 HS2 HW1
    generalize w7.taped T = w8 at *
    go_wp2_with fail
    refine KEnv.wk_wp (lawEnv_tight W) (fun _ _ _ _ h => h) fun T => ?_
    show Code.wp Star.prog _ _ _ _
    replace HW1' := Lib.hid (tell_taped (n := 0) (c := 0) HW1'.out T)
    have HW3 : Hid (Words .u8 (w8.taped T) (cutA A2 c2 0) (out19 3 (bkN (idx alg1)) [] [] bs k)) := by
      have h := words_takeN (cutA_words (l := 0) (tell_taped (n := 0) (c := 0) HW2.out T) (by rw [out19_length]; exact HL2.out)) k
      rw [List.drop_zero, out_take HKM.out.1] at h
      exact h
    have hcut := cut_to_run A2 m c2 k (Nat.le_trans HKM.out.1 HL2.out) (w8.taped T)
    have HS6 := Lib.hid (fun V A c B d h1 h2 => same_told (n := k) (out19_length 3 (bkN (idx alg1)) [] [] bs k) (out19_lt 3 (bkN (idx alg1)) [] [] bs k) (by have := HKM.out; omega) V A c B d h1 h2)
    clear HW2
    generalize w8.taped T = w9 at *
    go_wp2_with (go_at_call 8; refine (HS6.out _ _ _ _ _ HW1'.out HW3.out).mono ?_; rintro e w10 ⟨rfl, hb7⟩; clear hb7)
    exact ⟨.inr rfl, rfl, rfl⟩
end
end Go.Proofs.YtenffmfklmialaaGreatDoor.Co
end
