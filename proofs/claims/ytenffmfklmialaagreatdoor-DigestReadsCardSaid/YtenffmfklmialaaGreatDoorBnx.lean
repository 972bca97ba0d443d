/- part -/
import Derived.Test.YtenffmfklmialaaGreatDoorBnw
import Derived.Lib.SlBytesConst
import Derived.Test.YtenffmfklmialaaGreatDoorBnu
set_option linter.unusedVariables false
set_option linter.unusedSimpArgs false
set_option maxHeartbeats 8000000
namespace Go.Proofs.YtenffmfklmialaaGreatDoor.Co
open Go.Conc
open Go.RowKit L64 Rw Ln Sg Spo Cd Al Dg
section
def out19 (k R : Nat) (xs1 xs2 bs : List Nat) (n : Nat) : List Nat := sqB R n (turned R (S19 k xs1 xs2) (wB R (fun _ => 0) 0 (P19 k R xs1 xs2 ++ bs)).1 (wB R (fun _ => 0) 0 (P19 k R xs1 xs2 ++ bs)).2) 0
theorem out19_length (k R : Nat) (xs1 xs2 bs : List Nat) (n : Nat) : (out19 k R xs1 xs2 bs n).length = n := sqB_length _ _ _ _
theorem out19_lt (k R : Nat) (xs1 xs2 bs : List Nat) (n : Nat) : AllLt 256 (out19 k R xs1 xs2 bs n) := sqB_lt _ _ _ _
def ys19 (k R : Nat) (xs1 xs2 bs : List Nat) (many : Int) : List Nat := if readB many then out19 k R xs1 xs2 bs many.toNat else []
def er19 (many : Int) : Nat := if readB many then 0 else 1
def Tell19 (w : World) (ys : List Nat) (e : Nat) (v : Value) (w1 : World) : Prop := KB w w1 ∧ ∃ A c, v = .tuple #[.slice A ys.length c, .int .i64 (e : Nat)] ∧ Words .u8 w1 A ys ∧ ys.length ≤ c
theorem Tell19.taped {w : World} {ys : List Nat} {e : Nat} {v : Value} {w1 : World} (h : Tell19 w ys e v w1) (T : Tape) : Tell19 w ys e v (w1.taped T) := by
 obtain ⟨h1, A, c, h2, h3⟩ := h
 exact ⟨h1.taped T, A, c, h2, h3⟩
theorem sum19 (np R S : Nat) (f : Nat → Nat) (hf : ∀ i, f i < 18446744073709551616) (p : Nat) (hR : 0 < R) (hR2 : R ≤ 200) (hS : S < 256) (hp : p ≤ R) (many : Int) (V : World) (hnp : 4 ≠ np) (hs : Sp V np R S f p false) (ht : OTab V) :
 Calls Star.prog 30 #[.pointer (some ⟨np, 0, none⟩), .int .i64 many] V fun e w' =>
  ∃ A' c', e = .returned (.tuple #[.slice A' (if readB many then sqB R many.toNat (turned R S f p) 0 else []).length c', .int .i64 (er19 many : Nat)]) ∧ Words .u8 w' A' (if readB many then sqB R many.toNat (turned R S f p) 0 else []) ∧ (if readB many then sqB R many.toNat (turned R S f p) 0 else []).length ≤ c' ∧ Below V.heap.size V w' := by
 unfold er19
 cases hr : readB many with
 | true =>
   have hm : 0 ≤ many ∧ many ≤ 1048576 := by unfold readB at hr; simpa using hr
   obtain ⟨N, rfl⟩ := Int.eq_ofNat_of_zero_le hm.1
   rw [if_pos rfl, if_pos rfl, show ((N : Int)).toNat = N from Int.toNat_natCast N]
   refine (sum_any np R S f hf p hR hR2 hS hp N (by omega) V hs ht hnp).mono ?_
   rintro e w' ⟨v, rfl, h1, h2⟩
   have e5 : sqB R N (rdF R S f p false N) (rdP p false N) = sqB R N (turned R S f p) 0 := by
    cases N with
    | zero => rfl
    | succ n =>
      have e3 : rdF R S f p false (n + 1) = turned R S f p := if_pos ⟨by omega, rfl⟩
      have e4 : rdP p false (n + 1) = 0 := if_pos ⟨by omega, rfl⟩
      rw [e3, e4]
   rw [e5] at h1
   obtain ⟨A', c', hv, hw⟩ := h1.words
   rw [hv] at h1
   exact ⟨A', c', by rw [hv]; rfl, hw, (Cd.row_cap h1).1, h2⟩
 | false =>
   rw [if_neg (by decide), if_neg (by decide)]
   refine (sum_bad (.pointer (some ⟨np, 0, none⟩)) many hr V).mono ?_
   rintro e w' ⟨rfl, rfl⟩
   exact ⟨none, 0, rfl, fun i hi => by simp at hi, Nat.le_refl _, Below.refl _ _⟩
set_option maxRecDepth 20000 in
theorem ops_ofSponge (W : World) {ops : Array Oper} {i : Nat} {l : List Nat} {o : Oper} {Q : Exit → Go.Act → World → Prop} {a : Go.Act} {w : World} {args : Array Operand} {ats : Array TypeId} (ho : ops[i]? = some o) (hw : Region.wanted o (yielded ops a.tmps) = true) (hx : o.op = .call { callee := .value (.func 17), args := args, argTypes := ats })
 (alg : Int) (hk : 2 ≤ kdN (idx alg)) (A1 : Option Addr) (c1 : Nat) (xs1 : List Nat) (A2 : Option Addr) (c2 : Nat) (xs2 : List Nat) (hl : kdN (idx alg) = 4 → xs1.length ≤ 1000 ∧ xs2.length ≤ 1000) (A3 : Option Addr) (c3 : Nat) (bs : List Nat) (hbs : AllLt 256 bs) (hlc3 : bs.length ≤ c3) (many : Int)
 (hvals : args.map a.eval = #[.int .i64 alg, .agg #[.slice A1 xs1.length c1, .slice A2 xs2.length c2], .slice A3 bs.length c3, .int .i64 many])
 (hN : NmOk w A1 xs1 A2 xs2) (hw3 : Words .u8 w A3 bs) (hA3 : ∀ a, A3 = some a → a.block < w.heap.size) (hO : OTab w) (hT : ATab w) (hof : 4 < W.heap.size) (hWl : W.heap.size ≤ w.heap.size)
 (cont : ∀ v w1, Tell19 w (ys19 (kdN (idx alg)) (bkN (idx alg)) xs1 xs2 bs many) (er19 many) v w1 → (lawEnv W).Ops ops l Q (a.put o.dst v) w1) : (lawEnv W).Ops ops (i :: l) Q a w := by
 refine KEnv.ops_callK (lawEnv_tight W) ho hw hx (fun args w => by show (callFunc 17 args).run Star.prog w = _; kernel_rfl) Star.func17 rfl (R := Tell19 w (ys19 (kdN (idx alg)) (bkN (idx alg)) xs1 xs2 bs many) (er19 many)) ?_ cont
 rw [hvals]
 simp only [Star.ntmps17, List.size_toArray, List.length_cons, List.length_nil, Nat.reduceAdd, Nat.reduceSub, Array.replicate_succ, Array.replicate_zero, List.push_toArray, List.append_toArray, List.nil_append, List.cons_append]
 clear cont hvals hx hw ho
 obtain ⟨hr1, hr2⟩ := rate19 _ (idx_lt alg) hk
 refine KEnv.wk_then (lawEnv_tight W) fun T => ?_
 show Code.wp Star.prog _ _ _ _
 have F0 := Lib.hid (G19.start (n1 := xs1.length) (c1 := c1) (n2 := xs2.length) (c2 := c2) T hN hw3 hO hT)
 go_wp2_with fail
 generalize (w.taped T).alloc (.cells #[.slice A1 xs1.length c1, .slice A2 xs2.length c2] 29) = w1 at *
 generalize (w.taped T).heap.size = g at *
 refine KEnv.wk_seq (lawEnv_tight W) (KEnv.wk_region (lawEnv_tight W) ?_)
 show KEnv.Ops (lawEnv W) _ [0, 1, 2, 3, 4, 5, 6, 7] _ _ _
 refine KEnv.ops_value (lawEnv_tight W) (v := .int .i64 alg) rfl rfl (fun T => rfl) ?_
 show KEnv.Ops (lawEnv W) _ [1, 2, 3, 4, 5, 6, 7] _ (Go.Act.put _ (some 13) _) _
 refine KEnv.ops_load (lawEnv_tight W) (v := .agg #[.slice A1 xs1.length c1, .slice A2 xs2.length c2]) rfl rfl rfl (fun T => (F0.out.taped T).at'.hold.load (T := 29) Star.underlying29 rfl (by kernel_rfl)) ?_
 show KEnv.Ops (lawEnv W) _ [2, 3, 4, 5, 6, 7] _ (Go.Act.put _ (some 14) _) _
 refine ops_begun W rfl rfl rfl alg hk A1 c1 xs1 A2 c2 xs2 hl (by rw [map2]; rfl) F0.out.nm F0.out.ot F0.out.al hof (Nat.le_trans hWl F0.out.size) fun v w2 hB => ?_
 obtain ⟨np, rfl, hnp, hsp, hkb⟩ := hB
 have hP19 := P19_lt (kdN (idx alg)) (bkN (idx alg)) hN.x1 hN.x2
 have hS19 := S19_lt (kdN (idx alg)) xs1 xs2
 have hR0 : 0 < bkN (idx alg) := hr1
 have hXlt : AllLt 256 (P19 (kdN (idx alg)) (bkN (idx alg)) xs1 xs2 ++ bs) := by intro x hx; rcases List.mem_append.1 hx with h | h; exact hP19 x h; exact hbs x h
 have hcat := wB_append (bkN (idx alg)) (P19 (kdN (idx alg)) (bkN (idx alg)) xs1 xs2) bs (fun _ => 0) 0
 have hf1 := wB_lt (bkN (idx alg)) (P19 (kdN (idx alg)) (bkN (idx alg)) xs1 xs2) (fun _ => 0) 0 (fun _ => by show 0 < _; omega) hP19
 have hp1 : (wB (bkN (idx alg)) (fun _ => 0) 0 (P19 (kdN (idx alg)) (bkN (idx alg)) xs1 xs2)).2 < bkN (idx alg) := by rw [wB_at (bkN (idx alg)) hR0 _ _ _ hR0]; exact Nat.mod_lt _ hR0
 have hf2 := wB_lt (bkN (idx alg)) (P19 (kdN (idx alg)) (bkN (idx alg)) xs1 xs2 ++ bs) (fun _ => 0) 0 (fun _ => by show 0 < _; omega) hXlt
 have hp2 : (wB (bkN (idx alg)) (fun _ => 0) 0 (P19 (kdN (idx alg)) (bkN (idx alg)) xs1 xs2 ++ bs)).2 < bkN (idx alg) := by rw [wB_at (bkN (idx alg)) hR0 _ _ _ hR0]; exact Nat.mod_lt _ hR0
 have hwp := wrP_wB bs.length (bkN (idx alg)) (wB (bkN (idx alg)) (fun _ => 0) 0 (P19 (kdN (idx alg)) (bkN (idx alg)) xs1 xs2)).1 (wB (bkN (idx alg)) (fun _ => 0) 0 (P19 (kdN (idx alg)) (bkN (idx alg)) xs1 xs2)).2 bs hR0 hp1 hbs (Nat.le_refl _)
 replace hwp := hwp.trans hcat.symm
 have HSm := Lib.hid (fun (V : World) (h1 : 4 ≠ np) hs ht => sum19 np (bkN (idx alg)) (S19 (kdN (idx alg)) xs1 xs2) _ hf2 _ hR0 hr2 (by omega) (Nat.le_of_lt hp2) many V h1 hs ht)
 have hyd : (if readB many then sqB (bkN (idx alg)) many.toNat (turned (bkN (idx alg)) (S19 (kdN (idx alg)) xs1 xs2) (wB (bkN (idx alg)) (fun _ => 0) 0 (P19 (kdN (idx alg)) (bkN (idx alg)) xs1 xs2 ++ bs)).1 (wB (bkN (idx alg)) (fun _ => 0) 0 (P19 (kdN (idx alg)) (bkN (idx alg)) xs1 xs2 ++ bs)).2) 0 else []) = ys19 (kdN (idx alg)) (bkN (idx alg)) xs1 xs2 bs many := rfl
 rw [hyd] at HSm
 have hnp2 : w.heap.size ≤ np := Nat.le_trans F0.out.size hnp
 have F2 := Lib.hid (F0.out.next hkb)
 have hw1 := congrArg Prod.fst hwp
 have hw2 := congrArg Prod.snd hwp
 clear hyd hcat hXlt hP19 hkb F0 hN hw3 hO hT hwp hp2 hf2
 generalize ys19 (kdN (idx alg)) (bkN (idx alg)) xs1 xs2 bs many = YS at *
 generalize er19 many = ER at *
 generalize (wB (bkN (idx alg)) (fun _ => 0) 0 (P19 (kdN (idx alg)) (bkN (idx alg)) xs1 xs2 ++ bs)).1 = f2 at *
 generalize (wB (bkN (idx alg)) (fun _ => 0) 0 (P19 (kdN (idx alg)) (bkN (idx alg)) xs1 xs2 ++ bs)).2 = p2 at *
 generalize (wB (bkN (idx alg)) (fun _ => 0) 0 (P19 (kdN (idx alg)) (bkN (idx alg)) xs1 xs2)).1 = f1 at *
 generalize (wB (bkN (idx alg)) (fun _ => 0) 0 (P19 (kdN (idx alg)) (bkN (idx alg)) xs1 xs2)).2 = p1 at *
 generalize S19 (kdN (idx alg)) xs1 xs2 = S at *
 generalize bkN (idx alg) = R at *
 show KEnv.Ops (lawEnv W) _ (List.range' 3 5) _ (Go.Act.put _ (some 15) _) _
 refine KEnv.ops_tail (lawEnv_tight W) 3 (fun a w T h => KEnv.wk_tape h T) fun T => ?_
 simp only [List.drop_succ_cons, List.drop_zero, Go.Act.put, List.setIfInBounds_toArray, List.set_cons_succ, List.set_cons_zero]
 show wpList Star.prog _ _ _ _ _
 replace F2 := Lib.hid (F2.out.taped T)
 have HS2 := Lib.hid (show Sp (w2.taped T) np R S f1 p1 false from hold_taped hsp T)
 clear hsp
 generalize w2.taped T = w3 at *
 go_wp2_with fail
 refine KEnv.wk_then (lawEnv_tight W) fun T => ?_
 show Code.wp Star.prog _ _ _ _
 replace F2 := Lib.hid (F2.out.taped T)
 replace HS2 := Lib.hid (show Sp (w3.taped T) np R S f1 p1 false from hold_taped HS2.out T)
 generalize w3.taped T = w3 at *
 go_wp2_with fail
 refine KEnv.wk_seq (lawEnv_tight W) (KEnv.wk_region (lawEnv_tight W) ?_)
 show KEnv.Ops (lawEnv W) _ [0, 1, 2] _ _ _
 refine KEnv.ops_value (lawEnv_tight W) (v := .pointer (some ⟨np, 0, none⟩)) rfl rfl (fun T => rfl) ?_
 show KEnv.Ops (lawEnv W) _ [1, 2] _ (Go.Act.put _ (some 21) _) _
 refine KEnv.ops_value (lawEnv_tight W) (v := .slice A3 bs.length c3) rfl rfl (fun T => rfl) ?_
 show KEnv.Ops (lawEnv W) _ [2] _ (Go.Act.put _ (some 22) _) _
 have hof2 : 4 ≠ np := by omega
 refine KEnv.ops_hard (nB := 29) (nC := Tryz.prog.funcs.size) (args := #[.tmp 21, .tmp 22]) rfl rfl (by rw [Star.hard]; rfl) (by have h := fun a b => @hard_no a b; exact h _ _) (fun q hq => by have h := fun a b => @hard_spec a b; exact h _ _ q hq) ?_ callW calleW (Post := WPost w3 np R S f1 p1 false bs) (fun ρ fr rs w' vals' J hK hro hrd hv => ?_) (fun v w5 hp => KEnv.ops_nil (lawEnv_tight W) ?_)
 · intro x hx; simp at hx; rcases hx with rfl | rfl <;> trivial
 · exact write_act tight (by show lawB _ = true; kernel_rfl) HS2.out F2.out.ot F2.out.bw hbs hlc3 (fun a h => by have := hA3 a h; omega) hf1 (fun _ => hp1) (by omega) (fun h => by
    have h : isCells W np = true := h
    obtain ⟨_, _, _, h⟩ := isCells_get h
    have := (Array.getElem?_eq_some_iff.1 h).1
    omega) hof2 ρ fr rs w' vals' J hK hro hrd (by rw [map2] at hv; exact hv)
 · obtain ⟨hv, ht⟩ : v = .tuple #[.int .i64 (bs.length : Nat), .int .i64 0] ∧ Turns np 29 (spC R S f2 p2 false) w3 w5 := by
    rcases hp with ⟨h, _⟩ | ⟨_, h1, h2⟩
    · cases h
    · rw [hw1, hw2] at h2
      exact ⟨h1, h2⟩
   subst hv
   have HK5 := Lib.hid (F2.out.kb.far (turns_below ht hnp2 F2.out.size))
   have HO5 := Lib.hid (F2.out.ot.turns ht hof2)
   have HS5 := Lib.hid (show Sp w5 np R S f2 p2 false from ht.row)
   clear hp ht hw1 hw2 F2 HS2
   show KEnv.Wk (lawEnv W) _ _ (Go.Act.put _ (some 23) _) _
   refine KEnv.wk_end (lawEnv_tight W) .ret (M := fun a w1 => a.defers = [] ∧ Tell19 w YS ER (.tuple #[a.tmps.getD 8 undef, a.tmps.getD 9 undef]) w1) (fun a w T h => ⟨h.1, h.2.taped T⟩) (fun a w h => ⟨.inr rfl, h.1, _, results_tmp2 (by rfl) a.tmps Star.prog w, h.2⟩) fun T => ?_
   show Code.wp Star.prog _ _ _ _
   replace HK5 := Lib.hid (HK5.out.taped T)
   replace HO5 := Lib.hid (otab_taped HO5.out T)
   replace HS5 := Lib.hid (show Sp (w5.taped T) np R S f2 p2 false from hold_taped HS5.out T)
   generalize w5.taped T = w6 at *
   simp only [Go.Act.put, List.setIfInBounds_toArray, List.set_cons_succ, List.set_cons_zero]
   go_wp2_with (go_at_call 30; refine (HSm.out _ hof2 HS5.out HO5.out).mono ?_; rintro e w7 ⟨A7, c7, rfl, hw7, hl7, hb7⟩; have HW7 := Lib.hid (And.intro hw7 hl7); have HK7 := Lib.hid (HK5.out.trans (KB.of hb7)); clear hw7 hl7 hb7)
   exact ⟨HK7.out, A7, c7, rfl, HW7.out⟩
set_option maxRecDepth 20000 in
theorem ops_sum19 (W : World) {ops : Array Oper} {i : Nat} {l : List Nat} {o : Oper} {Q : Exit → Go.Act → World → Prop} {a : Go.Act} {w : World} {args : Array Operand} {ats : Array TypeId} (ho : ops[i]? = some o) (hw : Region.wanted o (yielded ops a.tmps) = true) (hx : o.op = .call { callee := .value (.func 11), args := args, argTypes := ats })
 (alg : Int) (hk : 2 ≤ kdN (idx alg)) (A1 : Option Addr) (c1 : Nat) (xs1 : List Nat) (A2 : Option Addr) (c2 : Nat) (xs2 : List Nat) (hc : chk (kdN (idx alg)) xs1 xs2 = 0) (A3 : Option Addr) (c3 : Nat) (bs : List Nat) (hbs : AllLt 256 bs) (hlc3 : bs.length ≤ c3)
 (hvals : args.map a.eval = #[.int .i64 alg, .agg #[.slice A1 xs1.length c1, .slice A2 xs2.length c2], .slice A3 bs.length c3])
 (hN : NmOk w A1 xs1 A2 xs2) (hw3 : Words .u8 w A3 bs) (hA3 : ∀ a, A3 = some a → a.block < w.heap.size) (hO : OTab w) (hT : ATab w) (hof : 4 < W.heap.size) (hWl : W.heap.size ≤ w.heap.size)
 (cont : ∀ v w1, Tell19 w (out19 (kdN (idx alg)) (bkN (idx alg)) xs1 xs2 bs (dgN (idx alg))) 0 v w1 → (lawEnv W).Ops ops l Q (a.put o.dst v) w1) : (lawEnv W).Ops ops (i :: l) Q a w := by
 refine KEnv.ops_callK (lawEnv_tight W) ho hw hx (fun args w => by show (callFunc 11 args).run Star.prog w = _; kernel_rfl) Star.func11 rfl (R := Tell19 w (out19 (kdN (idx alg)) (bkN (idx alg)) xs1 xs2 bs (dgN (idx alg))) 0) ?_ cont
 rw [hvals]
 simp only [Star.ntmps11, List.size_toArray, List.length_cons, List.length_nil, Nat.reduceAdd, Nat.reduceSub, Array.replicate_succ, Array.replicate_zero, List.push_toArray, List.append_toArray, List.nil_append, List.cons_append]
 clear cont hvals hx hw ho
 have hl4 : kdN (idx alg) = 4 → xs1.length ≤ 1000 ∧ xs2.length ≤ 1000 := fun h => by
  unfold chk at hc
  rw [h, if_neg (by decide), if_pos rfl] at hc
  by_cases hr : nmR xs1 xs2 = true
  · unfold nmR at hr; simpa using hr
  · rw [if_neg hr] at hc; cases hc
 have hdg : ∀ i, i < 15 → readB (dgN i : Nat) = true := by decide +kernel
 have hys : ys19 (kdN (idx alg)) (bkN (idx alg)) xs1 xs2 bs (dgN (idx alg) : Nat) = out19 (kdN (idx alg)) (bkN (idx alg)) xs1 xs2 bs (dgN (idx alg)) := by unfold ys19; rw [if_pos (hdg _ (idx_lt alg)), Int.toNat_natCast]
 have her : er19 (dgN (idx alg) : Nat) = 0 := if_pos (hdg _ (idx_lt alg))
 have hk1 : ((kdN (idx alg) : Nat) : Int) = 1 → False := by omega
 have HC := Lib.hid (fun W => check_any alg A1 c1 xs1 A2 c2 xs2 W)
 rw [hc] at HC
 have HK := Lib.hid (fun W h => kind_any alg W h)
 have HD := Lib.hid (fun W h => digest_any alg W h)
 refine KEnv.wk_then (lawEnv_tight W) fun T => ?_
 show Code.wp Star.prog _ _ _ _
 have F0 := Lib.hid (G19.start (n1 := xs1.length) (c1 := c1) (n2 := xs2.length) (c2 := c2) T hN hw3 hO hT)
 go_wp2_with fail
 generalize (w.taped T).alloc (.cells #[.slice A1 xs1.length c1, .slice A2 xs2.length c2] 29) = w1 at *
 generalize (w.taped T).heap.size = g at *
 refine KEnv.wk_then (lawEnv_tight W) fun T => ?_
 show Code.wp Star.prog _ _ _ _
 replace F0 := Lib.hid (F0.out.taped T)
 generalize w1.taped T = w1 at *
 have q1 := F0.out.at'.c0
 have q2 := F0.out.at'.c1
 go_wp2_with (go_at_call 15; refine (HC.out _ F0.out.al F0.out.nm).mono ?_; rintro e u2 ⟨rfl, hb2⟩; replace F0 := Lib.hid (F0.out.call hb2); clear hb2 q1 q2)
 refine KEnv.wk_then (lawEnv_tight W) fun T => ?_
 show Code.wp Star.prog _ _ _ _
 replace F0 := Lib.hid (F0.out.taped T)
 generalize u2.taped T = u3 at *
 have hk1b : (((kdN (idx alg) : Nat) : Int) == 1) = false := beq_eq_false_iff_ne.2 hk1
 clear hk1
 go_wp2_with (go_at_call 18; refine (HK.out _ F0.out.al).mono ?_; rintro e u4 ⟨rfl, hb2⟩; replace F0 := Lib.hid (F0.out.call hb2); clear hb2)
 refine KEnv.wk_seq (lawEnv_tight W) ?_
 have hf0 : ∀ u, KB u4 u → W.heap.size ≤ u.heap.size := fun u h => Nat.le_trans hWl (Nat.le_trans F0.out.size h.size)
 have hA4 : ∀ u, KB u4 u → ∀ a, A3 = some a → a.block < u.heap.size := fun u h a e => Nat.lt_of_lt_of_le (hA3 a e) (Nat.le_trans F0.out.size h.size)
 refine KEnv.wk_steps (lawEnv_tight W) (by show Star.prog.follows .mixedOrders = true; kernel_rfl) [[], [], [], [], [3], [0, 1, 2, 4], [5], [5], [6], [7]] (by kernel_rfl) [23, 24, 25, 26, 27, 28, 29, 30, 6, 7] (by kernel_rfl)
  [isK (.int .i64 alg), isK (.agg #[.slice A1 xs1.length c1, .slice A2 xs2.length c2]), isK (.slice A3 bs.length c3), isK (.int .i64 alg), isK (.int .i64 (dgN (idx alg) : Nat)),
   isTK (out19 (kdN (idx alg)) (bkN (idx alg)) xs1 xs2 bs (dgN (idx alg))).length (out19 (kdN (idx alg)) (bkN (idx alg)) xs1 xs2 bs (dgN (idx alg))) 0, isBK (out19 (kdN (idx alg)) (bkN (idx alg)) xs1 xs2 bs (dgN (idx alg))).length (out19 (kdN (idx alg)) (bkN (idx alg)) xs1 xs2 bs (dgN (idx alg))), isK (.int .i64 0),
   isBK (out19 (kdN (idx alg)) (bkN (idx alg)) xs1 xs2 bs (dgN (idx alg))).length (out19 (kdN (idx alg)) (bkN (idx alg)) xs1 xs2 bs (dgN (idx alg))), isK (.int .i64 0)]
  (KEnv.stepsK_cons ?_ (KEnv.stepsK_cons ?_ (KEnv.stepsK_cons ?_ (KEnv.stepsK_cons ?_ (KEnv.stepsK_cons ?_ (KEnv.stepsK_cons ?_ (KEnv.stepsK_cons ?_ (KEnv.stepsK_cons ?_ (KEnv.stepsK_cons ?_ (KEnv.stepsK_cons ?_ KEnv.stepsK_nil)))))))))) ?_
 · intro L s u lr h hd k
   simp only [actOf, List.foldl_cons, List.foldl_nil, Go.Act.put, List.setIfInBounds_toArray, List.set_cons_succ, List.set_cons_zero] at k ⊢
   exact KEnv.ops_value (lawEnv_tight W) (v := .int .i64 alg) rfl rfl (fun T => rfl) (k _ _ (KB.refl u) rfl)
 · intro L s u lr h hd k
   simp only [actOf, List.foldl_cons, List.foldl_nil, Go.Act.put, List.setIfInBounds_toArray, List.set_cons_succ, List.set_cons_zero] at k ⊢
   exact KEnv.ops_load (lawEnv_tight W) (v := .agg #[.slice A1 xs1.length c1, .slice A2 xs2.length c2]) rfl rfl rfl (fun T => ((F0.out.next h.kb).taped T).at'.hold.load (T := 29) Star.underlying29 rfl (by kernel_rfl)) (k _ _ (KB.refl u) rfl)
 · intro L s u lr h hd k
   simp only [actOf, List.foldl_cons, List.foldl_nil, Go.Act.put, List.setIfInBounds_toArray, List.set_cons_succ, List.set_cons_zero] at k ⊢
   exact KEnv.ops_value (lawEnv_tight W) (v := .slice A3 bs.length c3) rfl rfl (fun T => rfl) (k _ _ (KB.refl u) rfl)
 · intro L s u lr h hd k
   simp only [actOf, List.foldl_cons, List.foldl_nil, Go.Act.put, List.setIfInBounds_toArray, List.set_cons_succ, List.set_cons_zero] at k ⊢
   exact KEnv.ops_value (lawEnv_tight W) (v := .int .i64 alg) rfl rfl (fun T => rfl) (k _ _ (KB.refl u) rfl)
 · intro L s u lr h hd k
   simp only [actOf, List.foldl_cons, List.foldl_nil, Go.Act.put, List.setIfInBounds_toArray, List.set_cons_succ, List.set_cons_zero] at k ⊢
   have e3 : s 26 = .int .i64 alg := h.val 3 (by decide) (hd 3 (by decide))
   refine KEnv.ops_calls (lawEnv_tight W) rfl rfl rfl (vals := #[.int .i64 alg]) (by simp only [List.map_toArray, List.map_cons, List.map_nil]; show #[s 26] = _; rw [e3]) (fun args w => by show (callFunc 20 args).run Star.prog w = _; kernel_rfl) (R := fun v w1 => v = .int .i64 (dgN (idx alg) : Nat) ∧ KB u w1) (fun v w T h => ⟨h.1, h.2.taped T⟩) (fun T => (digest_any alg (u.taped T) (atab_taped (h.kb.atab F0.out.al) T)).mono fun e w' h => ⟨_, h.1, rfl, KB.ofT h.2⟩) fun v w1 h => k v w1 h.2 h.1
 · intro L s u lr h hd k
   simp only [actOf, List.foldl_cons, List.foldl_nil, Go.Act.put, List.setIfInBounds_toArray, List.set_cons_succ, List.set_cons_zero] at k ⊢
   have e0 : s 23 = .int .i64 alg := h.val 0 (by decide) (hd 0 (by decide))
   have e1 : s 24 = .agg #[.slice A1 xs1.length c1, .slice A2 xs2.length c2] := h.val 1 (by decide) (hd 1 (by decide))
   have e2 : s 25 = .slice A3 bs.length c3 := h.val 2 (by decide) (hd 2 (by decide))
   have e4 : s 27 = .int .i64 (dgN (idx alg) : Nat) := h.val 4 (by decide) (hd 4 (by decide))
   have F := F0.out.next h.kb
   refine ops_ofSponge W rfl rfl rfl alg hk A1 c1 xs1 A2 c2 xs2 hl4 A3 c3 bs hbs hlc3 (dgN (idx alg) : Nat) (by simp only [List.map_toArray, List.map_cons, List.map_nil]; show #[s 23, s 24, s 25, s 27] = _; rw [e0, e1, e2, e4]) F.nm F.bw (hA4 _ h.kb) F.ot F.al hof (hf0 _ h.kb) fun v w1 hv => ?_
   rw [hys, her] at hv
   obtain ⟨hkb, A, c, rfl, hws⟩ := hv
   exact k _ _ hkb ⟨A, c, rfl, hws⟩
 · intro L s u lr h hd k
   simp only [actOf, List.foldl_cons, List.foldl_nil, Go.Act.put, List.setIfInBounds_toArray, List.set_cons_succ, List.set_cons_zero] at k ⊢
   obtain ⟨A, c, e, hs⟩ : (isTK _ _ _).says (s 28) u := h.val 5 (by decide) (hd 5 (by decide))
   refine KEnv.ops_value (lawEnv_tight W) (v := .slice A _ c) rfl rfl (fun T => ?_) (k _ _ (KB.refl u) ⟨A, c, rfl, hs⟩)
   show (do pure (Next.value (← Instr.extract (s 28) 0)) : Sem Next).run _ _ = _
   rw [e]; rfl
 · intro L s u lr h hd k
   simp only [actOf, List.foldl_cons, List.foldl_nil, Go.Act.put, List.setIfInBounds_toArray, List.set_cons_succ, List.set_cons_zero] at k ⊢
   obtain ⟨A, c, e, hs⟩ : (isTK _ _ _).says (s 28) u := h.val 5 (by decide) (hd 5 (by decide))
   refine KEnv.ops_value (lawEnv_tight W) (v := .int .i64 0) rfl rfl (fun T => ?_) (k _ _ (KB.refl u) rfl)
   show (do pure (Next.value (← Instr.extract (s 28) 1)) : Sem Next).run _ _ = _
   rw [e]; rfl
 · intro L s u lr h hd k
   simp only [actOf, List.foldl_cons, List.foldl_nil, Go.Act.put, List.setIfInBounds_toArray, List.set_cons_succ, List.set_cons_zero] at k ⊢
   exact KEnv.ops_value (lawEnv_tight W) (v := s 29) rfl rfl (fun T => rfl) (k _ _ (KB.refl u) (h.val 6 (by decide) (hd 6 (by decide))))
 · intro L s u lr h hd k
   simp only [actOf, List.foldl_cons, List.foldl_nil, Go.Act.put, List.setIfInBounds_toArray, List.set_cons_succ, List.set_cons_zero] at k ⊢
   exact KEnv.ops_value (lawEnv_tight W) (v := s 30) rfl rfl (fun T => rfl) (k _ _ (KB.refl u) (h.val 7 (by decide) (hd 7 (by decide))))
 · intro s u hkb hv
   obtain ⟨A, c, e6, hs⟩ : (isBK _ _).says (s 6) u := hv 8 (by decide)
   have e7 : s 7 = .int .i64 0 := hv 9 (by decide)
   refine KEnv.wk_end (lawEnv_tight W) .ret (M := fun a w1 => a.defers = [] ∧ Tell19 w (out19 (kdN (idx alg)) (bkN (idx alg)) xs1 xs2 bs (dgN (idx alg))) 0 (.tuple #[a.tmps.getD 6 undef, a.tmps.getD 7 undef]) w1) (fun a w T h => ⟨h.1, h.2.taped T⟩) (fun a w h => ⟨.inr rfl, h.1, _, results_tmp2 (by rfl) a.tmps Star.prog w, h.2⟩) fun T => ?_
   show Code.wp Star.prog _ _ _ _
   have hB2 : Tell19 w (out19 (kdN (idx alg)) (bkN (idx alg)) xs1 xs2 bs (dgN (idx alg))) 0 (.tuple #[.slice A (out19 (kdN (idx alg)) (bkN (idx alg)) xs1 xs2 bs (dgN (idx alg))).length c, .int .i64 0]) (u.taped T) := Tell19.taped ⟨F0.out.kb.trans hkb, A, c, rfl, hs⟩ T
   generalize u.taped T = u4 at *
   simp only [actOf, List.foldl_cons, List.foldl_nil, Go.Act.put, List.setIfInBounds_toArray, List.set_cons_succ, List.set_cons_zero]
   go_wp2_with fail
   all_goals exact hB2
set_option maxRecDepth 20000 in
theorem ops_read19 (W : World) {ops : Array Oper} {i : Nat} {l : List Nat} {o : Oper} {Q : Exit → Go.Act → World → Prop} {a : Go.Act} {w : World} {args : Array Operand} {ats : Array TypeId} (ho : ops[i]? = some o) (hw : Region.wanted o (yielded ops a.tmps) = true) (hx : o.op = .call { callee := .value (.func 7), args := args, argTypes := ats })
 (alg : Int) (hk : 3 ≤ kdN (idx alg)) (A1 : Option Addr) (c1 : Nat) (xs1 : List Nat) (A2 : Option Addr) (c2 : Nat) (xs2 : List Nat) (hc : chk (kdN (idx alg)) xs1 xs2 = 0) (A3 : Option Addr) (c3 : Nat) (bs : List Nat) (hbs : AllLt 256 bs) (hlc3 : bs.length ≤ c3) (many : Int)
 (hvals : args.map a.eval = #[.int .i64 alg, .agg #[.slice A1 xs1.length c1, .slice A2 xs2.length c2], .slice A3 bs.length c3, .int .i64 many])
 (hN : NmOk w A1 xs1 A2 xs2) (hw3 : Words .u8 w A3 bs) (hA3 : ∀ a, A3 = some a → a.block < w.heap.size) (hO : OTab w) (hT : ATab w) (hof : 4 < W.heap.size) (hWl : W.heap.size ≤ w.heap.size)
 (cont : ∀ v w1, Tell19 w (ys19 (kdN (idx alg)) (bkN (idx alg)) xs1 xs2 bs many) (er19 many) v w1 → (lawEnv W).Ops ops l Q (a.put o.dst v) w1) : (lawEnv W).Ops ops (i :: l) Q a w := by
 refine KEnv.ops_callK (lawEnv_tight W) ho hw hx (fun args w => by show (callFunc 7 args).run Star.prog w = _; kernel_rfl) Star.func7 rfl (R := Tell19 w (ys19 (kdN (idx alg)) (bkN (idx alg)) xs1 xs2 bs many) (er19 many)) ?_ cont
 rw [hvals]
 simp only [Star.ntmps7, List.size_toArray, List.length_cons, List.length_nil, Nat.reduceAdd, Nat.reduceSub, Array.replicate_succ, Array.replicate_zero, List.push_toArray, List.append_toArray, List.nil_append, List.cons_append]
 clear cont hvals hx hw ho
 have hl4 : kdN (idx alg) = 4 → xs1.length ≤ 1000 ∧ xs2.length ≤ 1000 := fun h => by
  unfold chk at hc
  rw [h, if_neg (by decide), if_pos rfl] at hc
  by_cases hr : nmR xs1 xs2 = true
  · unfold nmR at hr; simpa using hr
  · rw [if_neg hr] at hc; cases hc
 have hk34 : (decide (kdN (idx alg) = 3) || decide (kdN (idx alg) = 4)) = true := by have := kd_le _ (idx_lt alg); simp; omega
 have HC := Lib.hid (fun W => check_any alg A1 c1 xs1 A2 c2 xs2 W)
 rw [hc] at HC
 have HR := Lib.hid (fun W h => reads_any alg W h)
 rw [hk34] at HR
 refine KEnv.wk_then (lawEnv_tight W) fun T => ?_
 show Code.wp Star.prog _ _ _ _
 have F0 := Lib.hid (G19.start (n1 := xs1.length) (c1 := c1) (n2 := xs2.length) (c2 := c2) T hN hw3 hO hT)
 go_wp2_with fail
 generalize (w.taped T).alloc (.cells #[.slice A1 xs1.length c1, .slice A2 xs2.length c2] 29) = w1 at *
 generalize (w.taped T).heap.size = g at *
 refine KEnv.wk_then (lawEnv_tight W) fun T => ?_
 show Code.wp Star.prog _ _ _ _
 replace F0 := Lib.hid (F0.out.taped T)
 generalize w1.taped T = w1 at *
 have q1 := F0.out.at'.c0
 have q2 := F0.out.at'.c1
 go_wp2_with (go_at_call 15; refine (HC.out _ F0.out.al F0.out.nm).mono ?_; rintro e u2 ⟨rfl, hb2⟩; replace F0 := Lib.hid (F0.out.call hb2); clear hb2 q1 q2)
 refine KEnv.wk_then (lawEnv_tight W) fun T => ?_
 show Code.wp Star.prog _ _ _ _
 replace F0 := Lib.hid (F0.out.taped T)
 generalize u2.taped T = u3 at *
 go_wp2_with (go_at_call 16; refine (HR.out _ F0.out.al).mono ?_; rintro e u4 ⟨rfl, hb2⟩; replace F0 := Lib.hid (F0.out.call hb2); clear hb2)
 refine KEnv.wk_seq (lawEnv_tight W) (KEnv.wk_region (lawEnv_tight W) ?_)
 show KEnv.Ops (lawEnv W) _ [0, 1, 2, 3, 4, 5, 6, 7, 8] _ _ _
 refine KEnv.ops_value (lawEnv_tight W) (v := .int .i64 alg) rfl rfl (fun T => rfl) ?_
 show KEnv.Ops (lawEnv W) _ [1, 2, 3, 4, 5, 6, 7, 8] _ (Go.Act.put _ (some 20) _) _
 refine KEnv.ops_load (lawEnv_tight W) (v := .agg #[.slice A1 xs1.length c1, .slice A2 xs2.length c2]) rfl rfl rfl (fun T => (F0.out.taped T).at'.hold.load (T := 29) Star.underlying29 rfl (by kernel_rfl)) ?_
 show KEnv.Ops (lawEnv W) _ [2, 3, 4, 5, 6, 7, 8] _ (Go.Act.put _ (some 21) _) _
 refine KEnv.ops_value (lawEnv_tight W) (v := .slice A3 bs.length c3) rfl rfl (fun T => rfl) ?_
 show KEnv.Ops (lawEnv W) _ [3, 4, 5, 6, 7, 8] _ (Go.Act.put _ (some 22) _) _
 refine KEnv.ops_value (lawEnv_tight W) (v := .int .i64 many) rfl rfl (fun T => rfl) ?_
 show KEnv.Ops (lawEnv W) _ [4, 5, 6, 7, 8] _ (Go.Act.put _ (some 23) _) _
 refine ops_ofSponge W rfl rfl rfl alg (by omega) A1 c1 xs1 A2 c2 xs2 hl4 A3 c3 bs hbs hlc3 many (by simp only [List.map_toArray, List.map_cons, List.map_nil]; rfl) F0.out.nm F0.out.bw (fun a e => Nat.lt_of_lt_of_le (hA3 a e) F0.out.size) F0.out.ot F0.out.al hof (Nat.le_trans hWl F0.out.size) fun v w5 hv => ?_
 obtain ⟨hkb, A, c, rfl, hws⟩ := hv
 have HK5 := Lib.hid (F0.out.kb.trans hkb)
 clear hkb F0
 generalize ys19 (kdN (idx alg)) (bkN (idx alg)) xs1 xs2 bs many = YS at *
 generalize er19 many = ER at *
 show KEnv.Ops (lawEnv W) _ (List.range' 5 4) _ (Go.Act.put _ (some 24) _) _
 refine KEnv.ops_tail (lawEnv_tight W) 5 (fun a w T h => KEnv.wk_tape h T) fun T => ?_
 simp only [List.drop_succ_cons, List.drop_zero, Go.Act.put, List.setIfInBounds_toArray, List.set_cons_succ, List.set_cons_zero]
 show wpList Star.prog _ _ _ _ _
 replace HK5 := Lib.hid (HK5.out.taped T)
 have HW5 := Lib.hid (show Words .u8 (w5.taped T) A YS ∧ YS.length ≤ c from hws)
 clear hws
 generalize w5.taped T = w6 at *
 go_wp2_with fail
 refine KEnv.wk_end (lawEnv_tight W) .ret (M := fun a w1 => a.defers = [] ∧ Tell19 w YS ER (.tuple #[a.tmps.getD 8 undef, a.tmps.getD 9 undef]) w1) (fun a w T h => ⟨h.1, h.2.taped T⟩) (fun a w h => ⟨.inr rfl, h.1, _, results_tmp2 (by rfl) a.tmps Star.prog w, h.2⟩) fun T => ?_
 show Code.wp Star.prog _ _ _ _
 have hB2 : Tell19 w YS ER (.tuple #[.slice A YS.length c, .int .i64 (ER : Nat)]) (w6.taped T) := Tell19.taped ⟨HK5.out, A, c, rfl, HW5.out⟩ T
 generalize w6.taped T = w7 at *
 go_wp2_with fail
 all_goals exact hB2
end
section
def abcN : List Nat := [97, 98, 99]
def abcC : Array Value := #[.int .u8 97, .int .u8 98, .int .u8 99]
theorem abc_lt : AllLt 256 abcN := by intro x h; simp [abcN] at h; omega
theorem nmOk_none (w : World) : NmOk w none [] none [] := ⟨by intro x h; simp at h, by intro x h; simp at h, fun i hi => by simp at hi, fun i hi => by simp at hi⟩
theorem shake_dg : dgN (idx 11) = 32 := by decide +kernel
theorem shake_ys (k R : Nat) (xs : List Nat) : ys19 k R [] [] xs 32 = out19 k R [] [] xs 32 := if_pos (by decide)
theorem tell_taped {n c : Nat} {w : World} {A : Option Addr} {xs : List Nat} (h : Words .u8 w A xs) (T : Tape) : Words .u8 (w.taped T) A xs := h
set_option maxRecDepth 20000 in
theorem ops_wakes19 (W : World) {ops : Array Oper} {i : Nat} {l : List Nat} {o : Oper} {Q : Exit → Go.Act → World → Prop} {a : Go.Act} {w : World} (ho : ops[i]? = some o) (hw : Region.wanted o (yielded ops a.tmps) = true) (hx : o.op = .call { callee := .value (.func 6), args := #[], argTypes := #[] })
 (hO : OTab w) (hT : ATab w) (hof : 4 < W.heap.size) (hWl : W.heap.size ≤ w.heap.size)
 (cont : ∀ w1, KB w w1 → (lawEnv W).Ops ops l Q (a.put o.dst (.bool true)) w1) : (lawEnv W).Ops ops (i :: l) Q a w := by
 refine KEnv.ops_callK (lawEnv_tight W) ho hw hx (fun args w => by show (callFunc 6 args).run Star.prog w = _; kernel_rfl) Star.func6 rfl (R := fun v w1 => v = .bool true ∧ KB w w1) ?_ (fun v w1 ⟨h1, h2⟩ => by subst h1; exact cont w1 h2)
 simp only [Star.ntmps6, List.size_toArray, List.length_cons, List.length_nil, Nat.reduceAdd, Nat.reduceSub, Array.replicate_succ, Array.replicate_zero, List.push_toArray, List.append_toArray, List.nil_append, List.cons_append, List.map_toArray, List.map_nil]
 refine KEnv.wk_then (lawEnv_tight W) fun T => ?_
 show Code.wp Star.prog _ _ _ _
 have HK0 := Lib.hid ((KB.refl w).taped T)
 have hsz : W.heap.size ≤ (w.taped T).heap.size := hWl
 generalize w.taped T = w0 at *
 go_wp2_with fail
 refine KEnv.wk_seq (lawEnv_tight W) (KEnv.wk_region (lawEnv_tight W) ?_)
 show KEnv.Ops (lawEnv W) _ [0, 1, 2, 3, 4, 5, 6, 7, 8] _ _ _
 refine KEnv.ops_value (lawEnv_tight W) (v := .agg #[.slice none 0 0, .slice none 0 0]) rfl rfl (fun T => by show (execOp _ _).run Star.prog _ = _; kernel_rfl) ?_
 show KEnv.Ops (lawEnv W) _ [1, 2, 3, 4, 5, 6, 7, 8] _ (Go.Act.put _ (some 6) _) _
 refine KEnv.ops_new (lawEnv_tight W) (v := .slice (some ⟨w0.heap.size, 0, none⟩) 3 3) (w2 := w0.alloc (.cells abcC 5)) rfl rfl (fun T => by show (execOp _ _).run Star.prog _ = _; kernel_rfl) ?_
 show KEnv.Ops (lawEnv W) _ [2, 3, 4, 5, 6, 7, 8] _ (Go.Act.put _ (some 7) _) _
 refine KEnv.ops_mark (nM := Tryz.prog.funcs.size + 1 + 1) (t := 22) (e := 5) (x := .tmp 7) (C := abcC) (e0 := 5) (fr0 := (0, 0)) (B := w0.heap.size) (n := 3) (c := 3) rfl rfl (by rw [Star.hard]; rfl) (by have h := fun a b => @mark_no a b; rw [Star.hard] at h; exact h _ _) (fun q hq => by have h := fun a b => @mark_spec a b; rw [Star.hard] at h; exact h _ _ q hq) trivial Tryz.underlying22 Tryz.underlying5 rfl (heap_alloc_new _ _) (by decide) (by decide) (fun h => ?_) rfl fun fr => ?_
 · have h : isCells W w0.heap.size = true := h
   obtain ⟨_, _, _, h⟩ := isCells_get h
   have := (Array.getElem?_eq_some_iff.1 h).1
   omega
 rw [KEnv.remark_alloc]
 have HKa := Lib.hid (HK0.out.trans (KB.of ((Below.refl w0.heap.size w0).alloc (Nat.le_refl _) (.cells abcC 5 fr))))
 have HE0 : Words .u8 (w0.alloc (.cells abcC 5 fr)) (some ⟨w0.heap.size, 0, none⟩) abcN := words_row (k := .u8) (t := 5) (fr := fr) (heap_alloc_new w0 _)
 have hga : w0.heap.size < (w0.alloc (.cells abcC 5 fr)).heap.size := by simp
 generalize w0.alloc (.cells abcC 5 fr) = wa at *
 generalize w0.heap.size = g0 at *
 show KEnv.Ops (lawEnv W) _ [3, 4, 5, 6, 7, 8] _ (Go.Act.put _ (some 8) _) _
 refine ops_sum19 W rfl rfl rfl 11 (by decide +kernel) none 0 [] none 0 [] (by decide +kernel) (some ⟨g0, 0, none⟩) 3 abcN abc_lt (by decide) (by simp only [List.map_toArray, List.map_cons, List.map_nil]; rfl) (nmOk_none _) HE0 (fun a h => by cases h; exact hga) (HKa.out.otab hO) (HKa.out.atab hT) hof (by omega) fun v wb hv => ?_
 rw [shake_dg] at hv
 obtain ⟨hkb, A1, c1, rfl, hw1, -⟩ := hv
 have hlen := out19_length (kdN (idx 11)) (bkN (idx 11)) [] [] abcN 32
 have hlt := out19_lt (kdN (idx 11)) (bkN (idx 11)) [] [] abcN 32
 rw [hlen]
 have HKb := Lib.hid (HKa.out.trans hkb)
 show KEnv.Ops (lawEnv W) _ (List.range' 4 5) _ (Go.Act.put _ (some 9) _) _
 refine KEnv.ops_tail (lawEnv_tight W) 4 (fun a w T h => KEnv.wk_tape h T) fun T => ?_
 simp only [List.drop_succ_cons, List.drop_zero, Go.Act.put, List.setIfInBounds_toArray, List.set_cons_succ, List.set_cons_zero]
 show wpList Star.prog _ _ _ _ _
 replace HKb := Lib.hid (HKb.out.taped T)
 have HW1 := Lib.hid (tell_taped (n := 0) (c := 0) hw1 T)
 have hsb : g0 < (wb.taped T).heap.size := Nat.lt_of_lt_of_le hga hkb.size
 have hsW : W.heap.size ≤ (wb.taped T).heap.size := Nat.le_trans (by omega) hkb.size
 clear hkb hw1 hlen hlt HE0 HKa HK0 hga
 generalize wb.taped T = w2 at *
 have HY := Lib.hid (show (out19 (kdN (idx 11)) (bkN (idx 11)) [] [] abcN 32).length = 32 ∧ AllLt 256 (out19 (kdN (idx 11)) (bkN (idx 11)) [] [] abcN 32) from ⟨out19_length _ _ _ _ _ _, out19_lt _ _ _ _ _ _⟩)
 have HRd := Lib.hid (shake_ys (kdN (idx 11)) (bkN (idx 11)) abcN)
 go_wp2_with fail
 refine KEnv.wk_seq (lawEnv_tight W) (KEnv.wk_region (lawEnv_tight W) ?_)
 show KEnv.Ops (lawEnv W) _ [0, 1, 2, 3, 4, 5, 6, 7, 8] _ _ _
 refine KEnv.ops_value (lawEnv_tight W) (v := .agg #[.slice none 0 0, .slice none 0 0]) rfl rfl (fun T => by show (execOp _ _).run Star.prog _ = _; kernel_rfl) ?_
 show KEnv.Ops (lawEnv W) _ [1, 2, 3, 4, 5, 6, 7, 8] _ (Go.Act.put _ (some 13) _) _
 refine KEnv.ops_new (lawEnv_tight W) (v := .slice (some ⟨w2.heap.size, 0, none⟩) 3 3) (w2 := w2.alloc (.cells abcC 5)) rfl rfl (fun T => by show (execOp _ _).run Star.prog _ = _; kernel_rfl) ?_
 show KEnv.Ops (lawEnv W) _ [2, 3, 4, 5, 6, 7, 8] _ (Go.Act.put _ (some 14) _) _
 refine KEnv.ops_mark (nM := Tryz.prog.funcs.size + 1 + 1) (t := 22) (e := 5) (x := .tmp 14) (C := abcC) (e0 := 5) (fr0 := (0, 0)) (B := w2.heap.size) (n := 3) (c := 3) rfl rfl (by rw [Star.hard]; rfl) (by have h := fun a b => @mark_no a b; rw [Star.hard] at h; exact h _ _) (fun q hq => by have h := fun a b => @mark_spec a b; rw [Star.hard] at h; exact h _ _ q hq) trivial Tryz.underlying22 Tryz.underlying5 rfl (heap_alloc_new _ _) (by decide) (by decide) (fun h => ?_) rfl fun fr => ?_
 · have h : isCells W w2.heap.size = true := h
   obtain ⟨_, _, _, h⟩ := isCells_get h
   have := (Array.getElem?_eq_some_iff.1 h).1
   omega
 rw [KEnv.remark_alloc]
 have hbl := (Below.refl w2.heap.size w2).alloc (Nat.le_refl _) (.cells abcC 5 fr)
 have HKc := Lib.hid (HKb.out.trans (KB.of hbl))
 have HW2 := Lib.hid (HW1.out.below hbl (Nat.le_refl _))
 have HE0 : Words .u8 (w2.alloc (.cells abcC 5 fr)) (some ⟨w2.heap.size, 0, none⟩) abcN := words_row (k := .u8) (t := 5) (fr := fr) (heap_alloc_new w2 _)
 have hga : w2.heap.size < (w2.alloc (.cells abcC 5 fr)).heap.size := by simp
 clear hbl HW1 HKb
 generalize w2.alloc (.cells abcC 5 fr) = wa2 at *
 generalize w2.heap.size = g2 at *
 show KEnv.Ops (lawEnv W) _ [3, 4, 5, 6, 7, 8] _ (Go.Act.put _ (some 15) _) _
 refine ops_read19 W rfl rfl rfl 11 (by decide +kernel) none 0 [] none 0 [] (by decide +kernel) (some ⟨g2, 0, none⟩) 3 abcN abc_lt (by decide) 32 (by simp only [List.map_toArray, List.map_cons, List.map_nil]; rfl) (nmOk_none _) HE0 (fun a h => by cases h; exact hga) (HKc.out.otab hO) (HKc.out.atab hT) hof (by omega) fun v wc hv => ?_
 rw [HRd.out, show er19 32 = 0 by decide] at hv
 obtain ⟨hkb, A2, c2, rfl, hw2, -⟩ := hv
 clear HRd
 generalize out19 (kdN (idx 11)) (bkN (idx 11)) [] [] abcN 32 = YS at *
 rw [HY.out.1]
 have HS6 := Lib.hid (fun V A c B d h1 h2 => same_told (n := 32) HY.out.1 HY.out.2 (by decide) V A c B d h1 h2)
 have HKd := Lib.hid (HKc.out.trans hkb)
 have HW3 := Lib.hid (hkb.words HW2.out)
 show KEnv.Ops (lawEnv W) _ (List.range' 4 5) _ (Go.Act.put _ (some 16) _) _
 refine KEnv.ops_tail (lawEnv_tight W) 4 (fun a w T h => KEnv.wk_tape h T) fun T => ?_
 simp only [List.drop_succ_cons, List.drop_zero, Go.Act.put, List.setIfInBounds_toArray, List.set_cons_succ, List.set_cons_zero]
 show wpList Star.prog _ _ _ _ _
 replace HKd := Lib.hid (HKd.out.taped T)
 replace HW3 := Lib.hid (tell_taped (n := 0) (c := 0) HW3.out T)
 have HW4 := Lib.hid (tell_taped (n := 0) (c := 0) hw2 T)
 clear hkb hw2 HE0 HKc hga HY HW2
 generalize wc.taped T = w5 at *
 go_wp2_with fail
 refine KEnv.wk_end (lawEnv_tight W) .ret (M := fun a w1 => a.defers = [] ∧ a.tmps.getD 0 undef = .bool true ∧ KB w w1) (fun a w T h => ⟨h.1, h.2.1, h.2.2.taped T⟩) (fun a w h => ⟨.inr rfl, h.1, _, results_tmp (by rfl) a.tmps Star.prog w, h.2.1, h.2.2⟩) fun T => ?_
 show Code.wp Star.prog _ _ _ _
 replace HKd := Lib.hid (HKd.out.taped T)
 replace HW3 := Lib.hid (tell_taped (n := 0) (c := 0) HW3.out T)
 replace HW4 := Lib.hid (tell_taped (n := 0) (c := 0) HW4.out T)
 generalize w5.taped T = w6 at *
 go_wp2_with (go_at_call 8; refine (HS6.out _ _ _ _ _ HW3.out HW4.out).mono ?_; rintro e w7 ⟨rfl, hb7⟩; have HK7 := Lib.hid (HKd.out.trans (KB.of hb7)); clear hb7)
 all_goals exact HK7.out
end
end Go.Proofs.YtenffmfklmialaaGreatDoor.Co

namespace Go.Proofs.YtenffmfklmialaaGreatDoor.Cd
section
open Go.RowKit Go.MapKept Rw Sg L64
set_option maxRecDepth 20000
theorem step_appB0 {P : Program} {w : World} {ops : Array Oper} {o : Oper} {a : Act} {K : Act → World → Prop} {Q : Exit → Act → World → Prop} {E : Prop} (hgd : o.guard = none) (s x : Operand) (t : TypeId)
 (ho : o.op = .call { callee := .builtin .append, args := #[s, x], argTypes := #[t, t] })
 (base : Nat) (e : TypeId) (i : TypeInfo) (ht : P.underlying t = some (.slice e)) (hi : P.info? e = some i) (hz : i.zero = some (.int .u8 0)) (hsize : i.size = 1) (hby : i.bytes = 1)
 (v : Value) (zs : List Nat) (hs : a.eval s = v) (hown : Row .u8 e base w v zs) (A : Option Addr) (c : Nat) (ys : List Nat) (hx : a.eval x = .slice A ys.length c) (hw : Words .u8 w A ys)
 (hlen : zs.length + ys.length ≤ 10000000) (hbase : base ≤ w.heap.size)
 (h : ∀ v' w', Row .u8 e base w' v' (zs ++ ys) → w.grownBy w' v.ownBlock → K (a.put o.dst v') w') :
 if Region.wanted o (yielded ops a.tmps) = true then Oper.wp P o a w K Q else E := by
 have hw' : Region.wanted o (yielded ops a.tmps) = true := by simp [Region.wanted, hgd]
 rw [if_pos hw']
 have hrun : ∃ v' w', (Builtin.append_ #[t, t] o.type #[v, .slice A ys.length c]).run P w = .ok v' w' ∧ Row .u8 e base w' v' (zs ++ ys) ∧ w.grownBy w' v.ownBlock := by
  rcases A with _ | ad
  · obtain rfl : ys = [] := by
     rcases ys with _ | ⟨y, l⟩
     · rfl
     · obtain ⟨b, o', e', _⟩ := hw 0 (by simp); cases e'
    exact ⟨v, w, run_append_noneC base t o.type e i 1 ht hi v zs.length (cellsOf .u8 zs) hown c, by rw [List.append_nil]; exact hown, ⟨rfl, rfl, rfl, Nat.le_refl _, fun _ _ _ => rfl⟩⟩
  · obtain ⟨v', w', hr, h2, h3, _, _⟩ := run_append_own_at (P := P) w base t o.type e i (.int .u8 0) 1 1 ht hi hz hsize hby rfl (by decide) v zs.length (cellsOf .u8 zs) hown ad ys.length c (cellsOf .u8 ys) (by rw [cellsOf_length, Nat.mul_one]) (words_addr8 hw) (cellsOf_oneCell _ _) (by unfold maxLen; omega) (by omega) hbase
    exact ⟨v', w', hr, Row.append h2, h3⟩
 obtain ⟨v', w', hr, h2, h3⟩ := hrun
 unfold Oper.wp
 simp only [execOp, ho, resolve, invoke, builtin, Sem.run_bind, Sem.run_pure, Result.andThen_ok, List.map_toArray, List.map_cons, List.map_nil, hs, hx, hr]
 exact h v' w' h2 h3
structure W17 (w u : World) (g n : Nat) (A1 : Option Addr) (n1 c1 : Nat) (xs1 : List Nat) (A2 : Option Addr) (n2 c2 : Nat) (xs2 : List Nat) (A3 : Option Addr) (bs : List Nat) (R S : Int) (f : Nat → Nat) (p : Int) : Prop where
 below : Below w.heap.size w u
 nm : NmOk u A1 xs1 A2 xs2
 at' : NmAt u g (.slice A1 n1 c1) (.slice A2 n2 c2)
 rp : Rp u n R S f p false
 bw : Words .u8 u A3 bs
theorem W17.call {w u u' : World} {g n : Nat} {A1 : Option Addr} {n1 c1 : Nat} {xs1 : List Nat} {A2 : Option Addr} {n2 c2 : Nat} {xs2 : List Nat} {A3 : Option Addr} {bs : List Nat} {R S : Int} {f : Nat → Nat} {p : Int} (h : W17 w u g n A1 n1 c1 xs1 A2 n2 c2 xs2 A3 bs R S f p) (hb : Below u.heap.size u u') : W17 w u' g n A1 n1 c1 xs1 A2 n2 c2 xs2 A3 bs R S f p :=
 ⟨h.below.trans (hb.mono h.below.size), h.nm.call hb, h.at'.call hb, h.rp.call hb, h.bw.below hb (Nat.le_refl _)⟩
theorem ref17whole_any (b : Int) (hb : b = 128 ∨ b = 256) (A1 : Option Addr) (c1 : Nat) (xs1 : List Nat) (A2 : Option Addr) (c2 : Nat) (xs2 : List Nat) (A3 : Option Addr) (c3 : Nat) (bs : List Nat) (hbs : AllLt 256 bs) (hl3 : bs.length ≤ 1000) (n : Nat) (hn : n ≤ 100000) (w : World) (hN : NmOk w A1 xs1 A2 xs2) (hw3 : Words .u8 w A3 bs) (hl1 : xs1.length ≤ 1000) (hl2 : xs2.length ≤ 1000) :
 Calls Star.prog 41 #[.int .i64 b, .agg #[.slice A1 xs1.length c1, .slice A2 xs2.length c2], .slice A3 bs.length c3, .int .i64 (n : Nat)] w fun e w' =>
  ∃ A' c', e = .returned (.slice A' n c') ∧ Words .u8 w' A' (sqB (rateOf b) n (turned (rateOf b) (sufOf xs1 xs2) (wB (rateOf b) (fun _ => 0) 0 (px17 (rateOf b) xs1 xs2 ++ bs)).1 (wB (rateOf b) (fun _ => 0) 0 (px17 (rateOf b) xs1 xs2 ++ bs)).2) 0) ∧ Below w.heap.size w w' := by
 obtain ⟨i0, hi0, hz0, hz1, hz2⟩ := info_parts u8_info2
 obtain ⟨hrB, hr1, hr2, -, -⟩ := rate_ok b hb
 have hpl := pxN_length (rateOf b) xs1 xs2 hr1
 have hplt := px17_lt (rateOf b) hN.x1 hN.x2
 have hpl' : (px17 (rateOf b) xs1 xs2).length ≤ 10000 := by unfold px17; split; exact Nat.zero_le _; omega
 have hsl : sufOf xs1 xs2 < 128 := by unfold sufOf; split <;> omega
 have HNew : Hid (∀ W, NmOk W A1 xs1 A2 xs2 → Calls Star.prog 70 #[.int .i64 b, .agg #[.slice A1 xs1.length c1, .slice A2 xs2.length c2]] W fun e w' =>
  e = .returned (.agg (rpC (rateOf b : Nat) (sufOf xs1 xs2 : Nat) (wB (rateOf b) (fun _ => 0) 0 (px17 (rateOf b) xs1 xs2)).1 ((wB (rateOf b) (fun _ => 0) 0 (px17 (rateOf b) xs1 xs2)).2 : Nat) false)) ∧ Below W.heap.size W w') := fun W hW => ref17new_any b hb A1 c1 xs1 A2 c2 xs2 W hW hl1 hl2
 have HPx : Hid (∀ W, NmOk W A1 xs1 A2 xs2 → Calls Star.prog 71 #[.int .i64 (rateOf b : Nat), .agg #[.slice A1 xs1.length c1, .slice A2 xs2.length c2]] W fun e w' => ∃ A c, e = .returned (.slice A (px17 (rateOf b) xs1 xs2).length c) ∧ Words .u8 w' A (px17 (rateOf b) xs1 xs2) ∧ Below W.heap.size W w') := fun W hW => by
  cases hem : nmE xs1 xs2 with
  | true =>
    have hP : px17 (rateOf b) xs1 xs2 = [] := by unfold px17; rw [hem]; rfl
    rw [hP]
    refine (refPrefix_no _ A1 c1 xs1 A2 c2 xs2 (by omega) (by omega) W hem).mono ?_
    rintro e u ⟨rfl, h⟩
    exact ⟨none, 0, rfl, fun i hi => by simp at hi, h⟩
  | false =>
    have hP : px17 (rateOf b) xs1 xs2 = pxN (rateOf b) xs1 xs2 := by unfold px17; rw [hem]; rfl
    rw [hP]
    refine (refPrefix_yes (rateOf b) hr1 (by omega) A1 c1 xs1 A2 c2 xs2 W hW (by omega) (by omega) hem).mono ?_
    rintro e u ⟨A, c, rfl, -, hw, h⟩
    exact ⟨A, c, rfl, hw, h⟩
 obtain ⟨XS, hXS⟩ : ∃ XS, XS = px17 (rateOf b) xs1 xs2 ++ bs := ⟨_, rfl⟩
 have hXl : XS.length ≤ 100000 := by rw [hXS, List.length_append]; omega
 have hXlt : AllLt 256 XS := by rw [hXS]; intro x hx; rcases List.mem_append.1 hx with h | h; exact hplt x h; exact hbs x h
 have HW : Hid (∀ W A c, Words .u8 W A XS → Calls Star.prog 42 #[.int .i64 (rateOf b : Nat), .int .i64 (sufOf xs1 xs2 : Nat), .slice A XS.length c, .int .i64 (n : Nat)] W fun e w' => ∃ A' c', e = .returned (.slice A' n c') ∧ Words .u8 w' A' (sqB (rateOf b) n (turned (rateOf b) (sufOf xs1 xs2) (wB (rateOf b) (fun _ => 0) 0 XS).1 (wB (rateOf b) (fun _ => 0) 0 XS).2) 0) ∧ Below W.heap.size W w') := fun W A c hw =>
  whole_any (rateOf b) (sufOf xs1 xs2) (by omega) hr2 hsl A c XS hXlt hXl n hn W hw
 rw [← hXS]
 have hlap : (px17 (rateOf b) xs1 xs2).length + bs.length ≤ 10000000 := by omega
 have HX := Lib.hid hXS
 have HA0 : Hid (NmAt (w.alloc (.cells #[.slice A1 xs1.length c1, .slice A2 xs2.length c2] 29)) w.heap.size (.slice A1 xs1.length c1) (.slice A2 xs2.length c2)) := Lib.hid ⟨Hold.new w _ _ 2 rfl⟩
 have HB0 := Lib.hid ((Below.refl w.heap.size w).alloc (Nat.le_refl _) (.cells #[.slice A1 xs1.length c1, .slice A2 xs2.length c2] 29))
 have HN0 := Lib.hid (hN.call HB0.out)
 have HW0 := Lib.hid (hw3.below HB0.out (Nat.le_refl _))
 generalize sqB (rateOf b) n (turned (rateOf b) (sufOf xs1 xs2) (wB (rateOf b) (fun _ => 0) 0 XS).1 (wB (rateOf b) (fun _ => 0) 0 XS).2) 0 = YS at *
 generalize (wB (rateOf b) (fun _ => 0) 0 (px17 (rateOf b) xs1 xs2)).1 = ff at *
 generalize (wB (rateOf b) (fun _ => 0) 0 (px17 (rateOf b) xs1 xs2)).2 = pp at *
 generalize px17 (rateOf b) xs1 xs2 = PX at *
 generalize sufOf xs1 xs2 = S at *
 generalize rateOf b = R at *
 clear hXS hXlt hXl hsl hpl' hplt hpl hrB hr1 hr2 hb hN hw3 hl1 hl2 hbs
 generalize xs1.length = n1 at *
 generalize xs2.length = n2 at *
 go_enter Star.func41, Star.ntmps41
 have q1 := HA0.out.c0
 have q2 := HA0.out.c1
 have HR0 : Hid (∀ W : World, Row .u8 5 W.heap.size W (.slice none 0 0) []) := Lib.hid fun W => Row.nil _ _ _ _
 go_wp2_with (first
  | (go_at_call 70
     refine (HNew.out _ HN0.out).mono ?_
     rintro e u1 ⟨rfl, hb1⟩
     have hH := Hold.new u1 (rpC 0 0 (fun _ => 0) 0 false) 110 29 (rpC_size _ _ _ _ _)
     have hst := run_storeR (c' := rpC (R : Nat) (S : Nat) ff (pp : Nat) false) hH.ok (rpC_size _ _ _ _ _) (rpC_ones _ _ _ _ _)
     have hbA := (Below.refl u1.heap.size u1).alloc (Nat.le_refl _) (.cells (rpC (R : Nat) (S : Nat) ff (pp : Nat) false) 110)
     have hbB := hb1.trans (hbA.mono hb1.size)
     have F : Hid (W17 w (u1.alloc (.cells (rpC (R : Nat) (S : Nat) ff (pp : Nat) false) 110)) w.heap.size u1.heap.size A1 n1 c1 xs1 A2 n2 c2 xs2 A3 bs (R : Nat) (S : Nat) ff (pp : Nat)) :=
      Lib.hid ⟨HB0.out.trans (hbB.mono HB0.out.size), HN0.out.call hbB, HA0.out.call hbB, Hold.new u1 _ _ 29 (rpC_size _ _ _ _ _), HW0.out.below hbB (Nat.le_refl _)⟩
     replace q1 := F.out.at'.c0
     replace q2 := F.out.at'.c1
     have q4 := (rpF F.out.rp).rate
     clear hH hbA hbB hb1)
  | (go_at_call 71
     refine (HPx.out _ F.out.nm).mono ?_
     rintro e u2 ⟨A4, c4, rfl, hw4, hb4⟩
     have F4 := Lib.hid (F.out.call hb4)
     have HWp := Lib.hid hw4
     clear hw4 hb4 q1 q2 q4)
  | (at_builtin
     refine append_anyB rfl _ _ 22 rfl u2.heap.size 5 i0 Star.underlying22 hi0 hz0 hz1 hz2 _ [] rfl (HR0.out u2) A4 c4 PX rfl HWp.out (by simp; omega) (Nat.le_refl _) ?_
     intro v5 w5 h5 hg5
     rw [List.nil_append] at h5
     have HB5 := Lib.hid (Row.grown0 (HR0.out u2) (Below.refl _ u2) (Nat.le_refl _) hg5)
     have HR5 := Lib.hid h5
     clear h5 hg5))
 have HB6 := Lib.hid (below_drew HB5.out)
 have HR6 := Lib.hid (HR5.out.below (below_drew (Below.refl _ _)) (Nat.le_refl _))
 have F6 := Lib.hid (F4.out.call HB6.out)
 clear HB5 HR5 HR0 HN0 HB0 HA0 HW0 HNew HPx HWp F
 have q4 := (rpF F6.out.rp).rate
 have q5 := (rpF F6.out.rp).suf
 go_region_law (first
  | (refine step_appB0 rfl _ _ 22 rfl u2.heap.size 5 i0 Star.underlying22 hi0 hz0 hz1 hz2 v5 PX (by rfl) HR6.out A3 c3 bs (by rfl) F6.out.bw hlap HB6.out.size ?_
     intro v7 w7 h7 hg7
     rw [← HX.out] at h7
     obtain ⟨A7, c7, rfl, hw7⟩ := h7.words
     have HW7 := Lib.hid hw7
     have HB7 := Lib.hid (Row.grown0 HR6.out HB6.out HB6.out.size hg7)
     have F7 := Lib.hid (F4.out.call HB7.out)
     replace q4 := (rpF F7.out.rp).rate
     replace q5 := (rpF F7.out.rp).suf
     clear h7 hg7 hw7 HB7)
  | (go_simp
     go_at_call 42
     (with_reducible refine (HW.out _ A7 c7 HW7.out).mono ?_)
     rintro e u8 ⟨A8, c8, rfl, hw8, hb8⟩
     have HW8 := Lib.hid hw8
     have HB8 := Lib.hid (F7.out.below.trans (hb8.mono F7.out.below.size))
     clear hw8 hb8 q4 q5))
 all_goals
  go_wp2_with fail
  go_ret
  exact ⟨A8, c8, rfl, HW8.out, HB8.out⟩
end
end Go.Proofs.YtenffmfklmialaaGreatDoor.Cd
