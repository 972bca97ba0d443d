/- part -/
import Derived.Test.YtenffmfklmialaaGreatDoorBnp
import Derived.Test.YtenffmfklmialaaGreatDoorBnu
import Derived.Test.YtenffmfklmialaaGreatDoorBnv
import Derived.Test.YtenffmfklmialaaGreatDoorBni
import Derived.RegionTactic
import Derived.StillTail
import Derived.Test.YtenffmfklmialaaGreatDoorBnh
import Derived.WalkMore
import Derived.Deep.LoopGhost
set_option linter.unusedVariables false
set_option linter.unusedSimpArgs false
set_option maxHeartbeats 8000000
namespace Go.Proofs.YtenffmfklmialaaGreatDoor.Co
section
open Go.Conc
open Go.RowKit L64 Rw Ln Sg Spo Cd
theorem turns_below {n k m : Nat} {u : Array Value} {a b : World} (h : Turns n k u a b) (h1 : m ≤ n) (h2 : m ≤ a.heap.size) : Below m a b :=
 ⟨h.os, h.tape, h.output, h.size, fun j hj => h.block j (by omega) (by omega)⟩
theorem KB.far {w w1 w2 : World} (h : KB w w1) (h2 : Below w.heap.size w1 w2) : KB w w2 := by
 obtain ⟨T, h⟩ := h
 exact ⟨T, h.trans h2⟩
theorem KB.otab {w w1 : World} (h : KB w w1) (hw : OTab w) : OTab w1 := by
 obtain ⟨T, h⟩ := h
 exact (otab_taped hw T).below h (Nat.le_refl _)
theorem KB.name {w w1 : World} {A1 : Option Addr} {xs1 : List Nat} {A2 : Option Addr} {xs2 : List Nat} (h : KB w w1) (hw : NmOk w A1 xs1 A2 xs2) : NmOk w1 A1 xs1 A2 xs2 :=
 ⟨hw.x1, hw.x2, h.words hw.w1, h.words hw.w2⟩
theorem row_far {k : IntKind} {t : TypeId} {base : Nat} {w : World} {A : Option Addr} {n c : Nat} {xs : List Nat} (h : Row k t base w (.slice A n c) xs) (a : Addr) (ha : A = some a) : base ≤ a.block := by
 rcases h.2 with ⟨e0, h0⟩ | ⟨g, cap, cur, e0, hbg, hg, hn, hm, _⟩
 · injection e0 with e1; rw [e1] at ha; cases ha
 · injection e0 with e1; rw [e1] at ha; cases ha; exact hbg
def New17 (w : World) (b : Int) (xs1 xs2 : List Nat) (v : Value) (w1 : World) : Prop :=
 ∃ np, v = .tuple #[.pointer (some ⟨np, 0, none⟩), .int .i64 0] ∧ w.heap.size ≤ np ∧ Sp w1 np (rateOf b) (sufOf xs1 xs2) (wB (rateOf b) (fun _ => 0) 0 (px17 (rateOf b) xs1 xs2)).1 (wB (rateOf b) (fun _ => 0) 0 (px17 (rateOf b) xs1 xs2)).2 false ∧ KB w w1
theorem New17.taped {w : World} {b : Int} {xs1 xs2 : List Nat} {v : Value} {w1 : World} (h : New17 w b xs1 xs2 v w1) (T : Tape) : New17 w b xs1 xs2 v (w1.taped T) := by
 obtain ⟨np, h1, h2, h3, h4⟩ := h
 exact ⟨np, h1, h2, hold_taped h3 T, h4.taped T⟩
def End17 (w : World) (b : Int) (xs1 xs2 : List Nat) (e : Exit) (a : Go.Act) (w1 : World) : Prop :=
 (e = .normal ∨ e = .ret) ∧ a.defers = [] ∧ New17 w b xs1 xs2 (.tuple #[a.tmps.getD 4 undef, a.tmps.getD 5 undef]) w1
section
attribute [local go_sem ↓] cut_hide
set_option maxRecDepth 20000 in
theorem ops_new17 (W : World) {ops : Array Oper} {i : Nat} {l : List Nat} {o : Oper} {Q : Exit → Go.Act → World → Prop} {a : Go.Act} {w : World} {args : Array Operand} {ats : Array TypeId} (ho : ops[i]? = some o) (hw : Region.wanted o (yielded ops a.tmps) = true) (hx : o.op = .call { callee := .value (.func 52), args := args, argTypes := ats })
 (b : Int) (hb : b = 128 ∨ b = 256) (A1 : Option Addr) (c1 : Nat) (xs1 : List Nat) (A2 : Option Addr) (c2 : Nat) (xs2 : List Nat) (hl1 : xs1.length ≤ 1000) (hl2 : xs2.length ≤ 1000) (hvals : args.map a.eval = #[.int .i64 b, .agg #[.slice A1 xs1.length c1, .slice A2 xs2.length c2]])
 (hN : NmOk w A1 xs1 A2 xs2) (hO : OTab w) (hof : 4 < W.heap.size) (hWl : W.heap.size ≤ w.heap.size)
 (cont : ∀ v w1, New17 w b xs1 xs2 v w1 → (lawEnv W).Ops ops l Q (a.put o.dst v) w1) : (lawEnv W).Ops ops (i :: l) Q a w := by
 cases hem : nmE xs1 xs2 with
 | true =>
   refine KEnv.ops_calls (lawEnv_tight W) ho hw hx hvals (fun args w => by show (callFunc 52 args).run Star.prog w = _; kernel_rfl) (R := New17 w b xs1 xs2) (fun v w T h => h.taped T) (fun T => ?_) cont
   refine (new17_plain b hb A1 c1 xs1 A2 c2 xs2 hem (w.taped T) ⟨hN.x1, hN.x2, hN.w1, hN.w2⟩).mono ?_
   rintro e w1 ⟨np, rfl, h1, h2, h3⟩
   refine ⟨_, rfl, np, rfl, h1, ?_, KB.ofT h3⟩
   rw [show sufOf xs1 xs2 = 31 by unfold sufOf; rw [hem]; rfl, show px17 (rateOf b) xs1 xs2 = [] by unfold px17; rw [hem]; rfl]
   exact h2
 | false =>
   obtain ⟨hrB, hr1, hr2, -, hok⟩ := rate_ok b hb
   have hS : sufOf xs1 xs2 = 4 := by unfold sufOf; rw [hem]; rfl
   have hP : px17 (rateOf b) xs1 xs2 = pxN (rateOf b) xs1 xs2 := by unfold px17; rw [hem]; rfl
   refine KEnv.ops_callK (lawEnv_tight W) ho hw hx (fun args w => by show (callFunc 52 args).run Star.prog w = _; kernel_rfl) Star.func52 rfl (R := New17 w b xs1 xs2) ?_ cont
   rw [hvals]
   simp only [Star.ntmps52, List.size_toArray, List.length_cons, List.length_nil, Nat.reduceAdd, Nat.reduceSub, Array.replicate_succ, Array.replicate_zero, List.push_toArray, List.append_toArray, List.nil_append, List.cons_append]
   refine KEnv.wk_mono (Q := End17 w b xs1 xs2) ?_ (fun e a w h => ⟨h.1, h.2.1, _, results_tmp2 rfl a.tmps Star.prog w, h.2.2⟩)
   refine KEnv.wk_spine (lawEnv_tight W) [_, _, _, _, _] (x := _) (fun e a w h => h.1) (fun e a w T h => ⟨h.1, h.2.1, h.2.2.taped T⟩) fun T => ?_
   have HR := Lib.hid (fun W => rates_any W)
   have HF := Lib.hid (rates_find b hb)
   have HRt := Lib.hid (fun W => right17_any A1 xs1.length c1 A2 xs2.length c2 W)
   rw [show (decide (xs1.length ≤ 1000) && decide (xs2.length ≤ 1000)) = true by simp [hl1, hl2]] at HRt
   have HK0 := Lib.hid ((KB.refl w).taped T)
   have hN0 : NmOk (w.taped T) A1 xs1 A2 xs2 := ⟨hN.x1, hN.x2, hN.w1, hN.w2⟩
   have hO0 := otab_taped hO T
   have hW0 : W.heap.size ≤ (w.taped T).heap.size := hWl
   have hsz0 : Hid ((w.taped T).heap.size = w.heap.size) := Lib.hid rfl
   generalize w.taped T = w0 at *
   have hB := (Below.refl w0.heap.size w0).alloc (Nat.le_refl _) (.cells #[.slice A1 xs1.length c1, .slice A2 xs2.length c2] 29)
   have HA := Lib.hid (NmAt.mk (Hold.new w0 #[.slice A1 xs1.length c1, .slice A2 xs2.length c2] 29 2 rfl))
   have HN := Lib.hid (hN0.call hB)
   have HO := Lib.hid (hO0.below hB (Nat.le_refl _))
   have HB := Lib.hid hB
   have HSf : Hid (∀ W, NmOk W A1 xs1 A2 xs2 → Calls Star.prog 77 #[.agg #[.slice A1 xs1.length c1, .slice A2 xs2.length c2]] W fun e w' => e = .returned (.int .i64 4) ∧ Below W.heap.size W w') := fun W h => by
    have := suffix_any A1 c1 xs1 A2 c2 xs2 h.x1 h.x2 W h.w1 h.w2
    rw [hem] at this; exact this
   have HP : Hid (∀ W, NmOk W A1 xs1 A2 xs2 → Calls Star.prog 78 #[.int .i64 (rateOf b : Nat), .agg #[.slice A1 xs1.length c1, .slice A2 xs2.length c2]] W (GivesP (pxN (rateOf b) xs1 xs2) W)) := fun W h => prefix_yes (rateOf b) hr1 (by omega) hrB A1 c1 xs1 A2 c2 xs2 W h (by unfold nmR; simp [hl1, hl2]) hem
   have HS : Hid (∀ W, Calls Star.prog 50 #[.int .i64 (rateOf b : Nat), .int .i64 4] W fun e w' => ∃ np, e = .returned (.tuple #[.pointer (some ⟨np, 0, none⟩), .int .i64 0]) ∧ W.heap.size ≤ np ∧ Sp w' np (rateOf b) 4 (fun _ => 0) 0 false ∧ Below W.heap.size W w') := fun W => (new_any _ _ W).mono fun e w' h => by
    have := h.1 hok
    rw [Int.toNat_natCast] at this
    exact this
   have hplt := pxN_lt (rateOf b) hN.x1 hN.x2
   unfold End17 New17
   rw [hS, hP]
   generalize pxN (rateOf b) xs1 xs2 = PX at *
   generalize rateOf b = R at *
   clear hP hS hN hN0 hO0 hB hrB hok hb cont hvals hx hw ho hem hl1 hl2 hO
   generalize xs1.length = n at *
   generalize xs2.length = m at *
   refine wpSpine_cons ?_
   show Code.wp Star.prog _ _ _ _
   go_wp2_with fail
   refine wpSpine_cons ?_
   show Code.wp Star.prog _ _ _ _
   go_wp2_with (go_at_call 76; refine (HR.out _).mono ?_; rintro e W0 ⟨g, rfl, hgs, hb, hB⟩; obtain ⟨ii, hff⟩ := HF.out; have hlk := run_lookup_ok (P := Star.prog) (w := W0) (T := 118) Star.underlying118 Star.underlying3 hb hff; replace HA := Lib.hid (HA.out.call hB); have q1 := HA.out.c0; have q2 := HA.out.c1; replace HN := Lib.hid (HN.out.call hB); replace HO := Lib.hid (HO.out.below hB (Nat.le_refl _)); replace HB := Lib.hid (HB.out.trans (hB.mono HB.out.size)); clear hB hb hgs hff)
   clear hlk
   refine wpSpine_cons ?_
   show Code.wp Star.prog _ _ _ _
   go_wp2_with fail
   refine wpSpine_cons ?_
   show Code.wp Star.prog _ _ _ _
   go_wp2_with (go_at_call 26; refine (HRt.out _).mono ?_; rintro e W1 ⟨rfl, hB⟩; replace HA := Lib.hid (HA.out.call hB); replace q1 := HA.out.c0; replace q2 := HA.out.c1; replace HN := Lib.hid (HN.out.call hB); replace HO := Lib.hid (HO.out.below hB (Nat.le_refl _)); replace HB := Lib.hid (HB.out.trans (hB.mono HB.out.size)); clear hB)
   refine wpSpine_cons ?_
   show Code.wp Star.prog _ _ _ _
   go_wp2_with (first
    | (go_at_call 77; refine (HSf.out _ HN.out).mono ?_; rintro e W2 ⟨rfl, hB⟩; replace HA := Lib.hid (HA.out.call hB); replace q1 := HA.out.c0; replace q2 := HA.out.c1; replace HN := Lib.hid (HN.out.call hB); replace HO := Lib.hid (HO.out.below hB (Nat.le_refl _)); replace HB := Lib.hid (HB.out.trans (hB.mono HB.out.size)); clear hB)
    | (go_at_call 50; refine (HS.out _).mono ?_; rintro e W3 ⟨np, rfl, hnp, hs, hB⟩; replace HA := Lib.hid (HA.out.call hB); replace q1 := HA.out.c0; replace q2 := HA.out.c1; replace HN := Lib.hid (HN.out.call hB); replace HO := Lib.hid (HO.out.below hB (Nat.le_refl _)); have HNP := Lib.hid (Nat.le_trans HB.out.size hnp); replace HB := Lib.hid (HB.out.trans (hB.mono HB.out.size)); have HSp := Lib.hid hs; clear hB hs hnp))
   refine KEnv.wk_seq (lawEnv_tight W) (KEnv.wk_then (lawEnv_tight W) fun T2 => ?_)
   show Code.wp Star.prog _ _ _ _
   replace HA : Hid (NmAt (W3.taped T2) w0.heap.size (.slice A1 n c1) (.slice A2 m c2)) := Lib.hid ⟨hold_taped HA.out.hold T2⟩
   replace HN := Lib.hid (show NmOk (W3.taped T2) A1 xs1 A2 xs2 from ⟨HN.out.x1, HN.out.x2, HN.out.w1, HN.out.w2⟩)
   replace HO := Lib.hid (otab_taped HO.out T2)
   have HK := Lib.hid ((HK0.out.trans (KB.of HB.out)).taped T2)
   replace HSp := Lib.hid (show Sp (W3.taped T2) np R 4 (fun _ => 0) 0 false from hold_taped HSp.out T2)
   clear HB q1 q2
   generalize W3.taped T2 = W4 at *
   have q1 := HA.out.c0
   have q2 := HA.out.c1
   go_wp2_with (go_at_call 78; refine (HP.out _ HN.out).mono ?_; rintro e W5 ⟨A3, c3, rfl, hr3, hw3, hB⟩; have HB5 := Lib.hid hB; have HW5 := Lib.hid hw3; have HR5 := Lib.hid hr3; clear q1 q2 hB hw3 hr3)
   have hlc3 := (Cd.row_cap HR5.out).1
   have HF3 := Lib.hid (row_far HR5.out)
   have hnp4 := HSp.out.lt
   have HS5 := HSp.out.call HB5.out
   have HO5 := HO.out.below HB5.out (Nat.le_refl _)
   have HK5 := HK.out.trans (KB.of HB5.out)
   clear HR5 HB5 HSp HO HK HA HN HP HS HSf HRt HF HR HK0
   refine KEnv.wk_then (lawEnv_tight W) fun T3 => ?_
   show Code.wp Star.prog _ _ _ _
   replace HS5 := Lib.hid (show Sp (W5.taped T3) np R 4 (fun _ => 0) 0 false from hold_taped HS5 T3)
   replace HO5 := Lib.hid (otab_taped HO5 T3)
   replace HK5 := Lib.hid (HK5.taped T3)
   replace HW5 := Lib.hid (show Words .u8 (W5.taped T3) A3 PX from HW5.out)
   generalize W5.taped T3 = W6 at *
   go_wp2_with fail
   refine KEnv.wk_cond (lawEnv_tight W) (t := true) rfl ?_
   refine KEnv.wk_region (lawEnv_tight W) ?_
   show KEnv.Ops (lawEnv W) _ [0, 1, 2] _ _ _
   refine KEnv.ops_value (lawEnv_tight W) (v := .pointer (some ⟨np, 0, none⟩)) rfl rfl (fun T => rfl) ?_
   show KEnv.Ops (lawEnv W) _ [1, 2] _ (Go.Act.put _ (some 37) _) _
   refine KEnv.ops_value (lawEnv_tight W) (v := .slice A3 PX.length c3) rfl rfl (fun T => rfl) ?_
   show KEnv.Ops (lawEnv W) _ [2] _ (Go.Act.put _ (some 38) _) _
   have hof2 : 4 ≠ np := by have := HNP.out; omega
   refine KEnv.ops_hard (nB := 29) (nC := Tryz.prog.funcs.size) (args := #[.tmp 37, .tmp 38]) rfl rfl (by rw [Star.hard]; rfl) (by have h := fun a b => @hard_no a b; exact h _ _) (fun q hq => by have h := fun a b => @hard_spec a b; exact h _ _ q hq) ?_ callW calleW (Post := WPost W6 np R 4 (fun _ => 0) 0 false PX) (fun ρ fr rs w' vals' J hK hro hrd hv => ?_) (fun v W7 hp => KEnv.ops_nil (lawEnv_tight W) ?_)
   · intro x hx; simp at hx; rcases hx with rfl | rfl <;> trivial
   · exact write_act tight (by show lawB _ = true; kernel_rfl) HS5.out HO5.out HW5.out hplt hlc3 (fun a h => by have := HF3.out a h; omega) (fun _ => by show 0 < _; omega) (fun _ => by omega) (by omega) (fun h => by
      have h : isCells W np = true := h
      obtain ⟨_, _, _, h⟩ := isCells_get h
      have := (Array.getElem?_eq_some_iff.1 h).1
      have := HNP.out
      omega) hof2 ρ fr rs w' vals' J hK hro hrd (by rw [map2] at hv; exact hv)
   · obtain ⟨hv, ht⟩ : v = .tuple #[.int .i64 (PX.length : Nat), .int .i64 0] ∧ Turns np 29 (spC R 4 (wB R (fun _ => 0) 0 PX).1 (wB R (fun _ => 0) 0 PX).2 false) W6 W7 := by
      rcases hp with ⟨h, _⟩ | ⟨_, h1, h2⟩
      · cases h
      · rw [wrP_wB _ R _ _ _ (by omega) (by omega) hplt (Nat.le_refl _)] at h2
        exact ⟨h1, h2⟩
     subst hv
     show KEnv.Wk (lawEnv W) _ _ (Go.Act.put _ (some 39) _) _
     have hnw : w.heap.size ≤ np := by have h1 := HNP.out; have h2 := hsz0.out; omega
     have HK7 := HK5.out.far (turns_below ht hnw HK5.out.size)
     refine KEnv.wk_wp (lawEnv_tight W) (fun e a w1 T h => ?_) fun T4 => ?_
     · obtain ⟨h1, h2, np, h3, h4, h5, h6⟩ := h
       exact ⟨h1, h2, np, h3, h4, hold_taped h5 T, h6.taped T⟩
     show Code.wp Star.prog _ _ _ _
     have HS8 := Lib.hid (show Sp (W7.taped T4) np R 4 (wB R (fun _ => 0) 0 PX).1 (wB R (fun _ => 0) 0 PX).2 false from hold_taped ht.row T4)
     have HK8 := Lib.hid (HK7.taped T4)
     clear hp ht HK7 HS5 HO5 HK5 HW5
     generalize W7.taped T4 = W8 at *
     simp only [Go.Act.put, List.setIfInBounds_toArray, List.set_cons_succ, List.set_cons_zero]
     go_wp2_with fail
     exact ⟨HS8.out, HK8.out⟩
end
end
end Go.Proofs.YtenffmfklmialaaGreatDoor.Co

namespace Go.Proofs.YtenffmfklmialaaGreatDoor.Rw
section
open Go.RowKit
def updB (L : Nat → Bool) (i : Nat) : Nat → Bool := fun j => if j = i then true else L j
def updS (s : Nat → Value) : Option Nat → Value → Nat → Value
 | none, _ => s
 | some d, v => fun j => if j = d then v else s j
def depsOk (ops : Array Oper) (deps : List (List Nat)) : Bool :=
 (List.range ops.size).all fun i => match ops[i]? with
   | some o => ((deps.getD i []).all fun d => o.after.any fun e => Region.binds .any e && e.on == d) && o.after.all fun e => !Region.binds .any e || decide (e.on < i)
   | none => false
section
variable {P : Program} {ops : Array Oper} {Q : Exit → Act → World → Prop} {deps : List (List Nat)}
theorem depsOk_spec (h : depsOk ops deps = true) {i : Nat} {o : Oper} (ho : ops[i]? = some o) :
 (∀ d ∈ deps.getD i [], ∃ e ∈ o.after, Region.binds .any e = true ∧ e.on = d) ∧ ∀ e ∈ o.after, Region.binds .any e = true → e.on < i := by
 have hi : i < ops.size := (Array.getElem?_eq_some_iff.1 ho).1
 have := List.all_eq_true.1 h i (List.mem_range.2 hi)
 rw [ho] at this
 simp only [Bool.and_eq_true] at this
 refine ⟨fun d hd => ?_, fun e he hb => ?_⟩
 · obtain ⟨e, he, h2⟩ := Array.any_eq_true'.1 (List.all_eq_true.1 this.1 d hd)
   simp only [Bool.and_eq_true, beq_iff_eq] at h2
   exact ⟨e, he, h2.1, h2.2⟩
 · have h3 := Array.all_eq_true'.1 this.2 e he
   simpa [hb] using h3
theorem filter_set : ∀ (l : List Bool) (i : Nat), l[i]? = some false → ((l.set i true).filter (!·)).length + 1 = (l.filter (!·)).length
 | [], i, h => by simp at h
 | b :: l, 0, h => by
   simp at h
   subst h
   simp
 | b :: l, i + 1, h => by
   have ih := filter_set l i (by simpa using h)
   cases b <;> simp_all
theorem filter_none : ∀ (l : List Bool), (l.filter (!·)).length = 0 → ∀ (i : Nat) (b : Bool), l[i]? = some b → b = true
 | [], _, i, b, h => by simp at h
 | c :: l, h0, i, b, h => by
   cases c
   · simp at h0
   · cases i with
     | zero => simp at h; exact h
     | succ i => exact filter_none l (by simpa using h0) i b (by simpa using h)
def actOf (a0 : Act) (ds : List Nat) (s : Nat → Value) : Act := ds.foldl (fun a d => a.put (some d) (s d)) a0
theorem put_twice (a : Act) (d : Nat) (u v : Value) : (a.put (some d) u).put (some d) v = a.put (some d) v := by
 unfold Act.put
 simp only [Act.mk.injEq, and_true]
 apply Array.ext_getElem?
 intro i
 by_cases h : d = i
 · subst h; simp [Array.getElem?_setIfInBounds_self]
 · rw [Array.getElem?_setIfInBounds_ne h, Array.getElem?_setIfInBounds_ne h, Array.getElem?_setIfInBounds_ne h]
theorem put_swap (a : Act) {d e : Nat} (h : d ≠ e) (u v : Value) : (a.put (some d) u).put (some e) v = (a.put (some e) v).put (some d) u := by
 unfold Act.put
 simp only [Act.mk.injEq, and_true]
 exact Array.setIfInBounds_comm _ _ h
theorem actOf_put : ∀ (ds : List Nat) (a0 : Act) (s : Nat → Value) (d : Nat) (v : Value), d ∉ ds → (actOf a0 ds s).put (some d) v = actOf (a0.put (some d) v) ds s
 | [], a0, s, d, v, _ => rfl
 | e :: ds, a0, s, d, v, h => by
   have h1 : e ≠ d := fun x => h (by simp [x])
   have := actOf_put ds (a0.put (some e) (s e)) s d v (fun x => h (by simp [x]))
   show ((actOf (a0.put (some e) (s e)) ds s).put (some d) v) = _
   rw [this, put_swap _ h1]
   rfl
theorem actOf_congr : ∀ (ds : List Nat) (a0 : Act) (s s' : Nat → Value), (∀ d ∈ ds, s d = s' d) → actOf a0 ds s = actOf a0 ds s'
 | [], _, _, _, _ => rfl
 | e :: ds, a0, s, s', h => by
   show actOf (a0.put (some e) (s e)) ds s = actOf (a0.put (some e) (s' e)) ds s'
   rw [h e (by simp)]
   exact actOf_congr ds _ s s' fun d hd => h d (by simp [hd])
theorem actOf_upd : ∀ (ds : List Nat) (a0 : Act) (s : Nat → Value) (d : Nat) (v : Value), d ∈ ds → ds.Nodup → (actOf a0 ds s).put (some d) v = actOf a0 ds (updS s (some d) v)
 | [], _, _, _, _, h, _ => by cases h
 | e :: ds, a0, s, d, v, h, hn => by
   obtain ⟨hn1, hn2⟩ := List.nodup_cons.1 hn
   show (actOf (a0.put (some e) (s e)) ds s).put (some d) v = actOf (a0.put (some e) (updS s (some d) v e)) ds (updS s (some d) v)
   by_cases hed : e = d
   · subst hed
     rw [actOf_put ds _ s e v hn1, put_twice]
     have h1 : updS s (some e) v e = v := if_pos rfl
     rw [h1]
     exact actOf_congr ds _ _ _ fun d hd => (if_neg (fun x => hn1 (by rw [← x]; exact hd))).symm
   · have hd : d ∈ ds := by
      rcases List.mem_cons.1 h with h | h
      · exact absurd h.symm hed
      · exact h
     have h1 : updS s (some d) v e = s e := if_neg hed
     rw [h1]
     exact actOf_upd ds _ s d v hd hn2
theorem put_own (a : Act) (d : Nat) : a.put (some d) (a.tmps.getD d undef) = a := by
 unfold Act.put
 cases a with
 | mk t ds =>
   simp only [Act.mk.injEq, and_true]
   apply Array.ext_getElem?
   intro i
   by_cases h : d = i
   · subst h
     by_cases h2 : d < t.size
     · simp [h2]
     · rw [Array.getElem?_eq_none (by simp; omega), Array.getElem?_eq_none (by omega)]
   · rw [Array.getElem?_setIfInBounds_ne h]
theorem actOf_own : ∀ (ds : List Nat) (a0 : Act), actOf a0 ds (fun d => a0.tmps.getD d undef) = a0
 | [], _ => rfl
 | e :: ds, a0 => by
   show actOf (a0.put (some e) (a0.tmps.getD e undef)) ds (fun d => a0.tmps.getD d undef) = a0
   rw [put_own]
   exact actOf_own ds a0
def Closed (deps : List (List Nat)) (L : Nat → Bool) : Prop := ∀ i d, L i = true → d ∈ deps.getD i [] → L d = true
end
def InjTo (m : Nat) (f : Nat → Nat) : Prop := ∀ x, x < m → ∀ y, y < m → f x = f y → x = y
theorem updB_other {L : Nat → Bool} {i j : Nat} (h : j ≠ i) : updB L i j = L j := if_neg h
theorem updB_self {L : Nat → Bool} {i : Nat} : updB L i i = true := if_pos rfl
theorem updS_other {s : Nat → Value} {d e : Nat} {v : Value} (h : e ≠ d) : updS s (some d) v e = s e := if_neg h
theorem updS_self {s : Nat → Value} {d : Nat} {v : Value} : updS s (some d) v d = v := if_pos rfl
section
variable {W0 : World} {n : Nat} {oi sl : Nat → Nat} {k : Nat → Nat} {A V : Nat → Value} {Z U : Nat → Array Value} {L : Nat → Bool} {s : Nat → Value} {w : World}
end
structure JV (W0 : World) (ds : List Nat) (vs : List Value) (L : Nat → Bool) (s : Nat → Value) (w : World) : Prop where
 below : Below W0.heap.size W0 w
 val : ∀ i, i < ds.length → L i = true → s (ds.getD i 0) = vs.getD i undef
theorem nodup_getD {ds : List Nat} (h : ds.Nodup) {i j : Nat} (hi : i < ds.length) (hj : j < ds.length) (e : ds.getD i 0 = ds.getD j 0) : i = j := by
 rw [List.getD_eq_getElem?_getD, List.getD_eq_getElem?_getD, List.getElem?_eq_getElem hi, List.getElem?_eq_getElem hj] at e
 exact (List.getElem_inj h).1 (by simpa using e)
theorem JV.step {W0 : World} {ds : List Nat} {vs : List Value} {L : Nat → Bool} {s : Nat → Value} {w w' : World} (h : JV W0 ds vs L s w) (hn : ds.Nodup) (i : Nat) (hi : i < ds.length) (hb : Below w.heap.size w w') :
 JV W0 ds vs (updB L i) (updS s (some (ds.getD i 0)) (vs.getD i undef)) w' :=
 ⟨h.below.trans (hb.mono h.below.size), fun j hj hL => by
   by_cases e : j = i
   · subst e; exact updS_self
   · rw [updS_other (fun x => e (nodup_getD hn hj hi x))]
     rw [updB_other e] at hL
     exact h.val j hj hL⟩
def deps3 : List (List Nat) := [[], [0], [], [2], [], [4], [], [], [], [6, 1], [7, 3], [8, 5]]
end
end Go.Proofs.YtenffmfklmialaaGreatDoor.Rw

section
namespace Go.Proofs.YtenffmfklmialaaGreatDoor.Co
open Go.Conc
open Go.RowKit Rw
namespace KEnv
variable {E : KEnv} {ops : Array Oper} {Q : Exit → Go.Act → World → Prop} {a : Go.Act} {w : World} {deps : List (List Nat)}
theorem ops_order (hX : E.Tight) (hd : depsOk ops deps = true) (J : (Nat → Bool) → Go.Act → World → Prop)
 (hstep : ∀ (L : Nat → Bool) a w i o l, ops[i]? = some o → J L a w → L i = false → (∀ d ∈ deps.getD i [], L d = true) → (∀ a' w', J (updB L i) a' w' → E.Ops ops l Q a' w') → E.Ops ops (i :: l) Q a w)
 (hfin : ∀ (L : Nat → Bool) a w, (∀ i, i < ops.size → L i = true) → J L a w → Q .normal a w) :
 ∀ (fuel : Nat) (listed : Array Bool) (a : Go.Act) (w : World) (t : Nat), listed.size = ops.size → (listed.toList.filter (!·)).length ≤ fuel → J (fun i => listed.getD i false) a w → E.Ops ops (Region.linearise.go .any ops fuel t listed []) Q a w := by
 have done : ∀ (listed : Array Bool) (a : Go.Act) (w : World), listed.size = ops.size → J (fun i => listed.getD i false) a w → Region.ready .any ops listed = [] → Q .normal a w := by
  intro listed a w hs hJ hr
  refine hfin _ a w (fun i => ?_) hJ
  induction i using Nat.strongRecOn with
  | _ i ih =>
    intro hi
    show listed.getD i false = true
    by_cases hl : listed.getD i false = true
    · exact hl
    · exfalso
      have hl2 : listed.getD i true = false := getD_in (by omega) (by simpa using hl)
      obtain ⟨o, ho⟩ : ∃ o, ops[i]? = some o := ⟨_, Array.getElem?_eq_getElem hi⟩
      have hm : i ∈ Region.ready .any ops listed := mem_ready.2 ⟨hl2, o, ho, fun e he hb => by
       have hlt := (depsOk_spec hd ho).2 e he hb
       exact ih e.on hlt (by omega)⟩
      rw [hr] at hm
      cases hm
 intro fuel
 induction fuel with
 | zero =>
   intro listed a w t hs hc hJ
   have hr : Region.ready .any ops listed = [] := by
    rw [List.eq_nil_iff_forall_not_mem]
    intro i hi
    obtain ⟨h1, o, ho, _⟩ := mem_ready.1 hi
    have hlt : i < listed.size := by rw [hs]; exact (Array.getElem?_eq_some_iff.1 ho).1
    have h2 : listed.toList[i]? = some false := by
     rw [Array.getElem?_toList, Array.getElem?_eq_getElem hlt]
     simpa [hlt] using h1
    have := filter_none _ (by omega) i false h2
    cases this
   exact ops_nil hX (done listed a w hs hJ hr)
 | succ fuel ih =>
   intro listed a w t hs hc hJ
   simp only [Region.linearise.go]
   change E.Ops ops (match (Region.ready .any ops listed)[t % (Region.ready .any ops listed).length]? with
    | some i => Region.linearise.go .any ops fuel (t / (Region.ready .any ops listed).length) (listed.setIfInBounds i true) [i]
    | none => [].reverse) Q a w
   cases hi : (Region.ready .any ops listed)[t % (Region.ready .any ops listed).length]? with
   | none =>
     have hnil : Region.ready .any ops listed = [] := by
      cases hr : Region.ready .any ops listed with
      | nil => rfl
      | cons x xs =>
        rw [hr] at hi
        have hlt : t % (x :: xs).length < (x :: xs).length := Nat.mod_lt _ (by simp)
        simp at hi
        simp at hlt
        omega
     exact ops_nil hX (done listed a w hs hJ hnil)
   | some i =>
     simp only []
     rw [linearise_go_acc, List.reverse_singleton, List.singleton_append]
     obtain ⟨h1, o, ho, hall⟩ := mem_ready.1 (List.mem_of_getElem? hi)
     have hlt : i < listed.size := by rw [hs]; exact (Array.getElem?_eq_some_iff.1 ho).1
     have h2 : listed.toList[i]? = some false := by
      rw [Array.getElem?_toList, Array.getElem?_eq_getElem hlt]
      simpa [hlt] using h1
     have e : (fun j => (listed.setIfInBounds i true).getD j false) = updB (fun j => listed.getD j false) i := by
      funext j
      unfold updB
      by_cases hj : j = i
      · subst hj; simp [hlt]
      · rw [if_neg hj, getD_set_ne false (fun h => hj h.symm)]
     refine hstep _ a w i o _ ho hJ (getD_both h1) (fun d hd' => ?_) fun a' w' hJ' => ih _ a' w' _ (by simp [hs]) ?_ (by rw [e]; exact hJ')
     · obtain ⟨e', he, hb, rfl⟩ := (depsOk_spec hd ho).1 d hd'
       exact hall e' he hb
     · have := filter_set _ i h2
       rw [Array.toList_setIfInBounds]
       omega
theorem wk_draw (hX : E.Tight) {id : Nat} (hm : E.P.follows .mixedOrders = true) (hd : depsOk ops deps = true) (J : (Nat → Bool) → Go.Act → World → Prop) (h0 : J (fun _ => false) a w.drew)
 (hstep : ∀ (L : Nat → Bool) a w i o l, ops[i]? = some o → J L a w → L i = false → (∀ d ∈ deps.getD i [], L d = true) → (∀ a' w', J (updB L i) a' w' → E.Ops ops l Q a' w') → E.Ops ops (i :: l) Q a w)
 (hfin : ∀ (L : Nat → Bool) a w, (∀ i, i < ops.size → L i = true) → J L a w → Q .normal a w) : E.Wk (.region id ops true) Q a w := by
 intro b k cs N hcs hA
 refine Goes.trans (Q := fun g1 w1 => ∃ t T, g1 = G (b.at a (.inRegion ops (Region.linearise.go .any ops ops.size t (Array.replicate ops.size false) []) :: k)) cs ∧ w1 = w.drew.taped T) (goes_steps hX (fun g w h => by obtain ⟨_, _, h, _⟩ := h; rw [h]; exact hcs) (fun g1 w1 T h => ?_) rfl fun T => ?_) ?_
 · obtain ⟨t, T1, h1, rfl⟩ := h
   exact ⟨t, T, h1, rfl⟩
 · have e : ∀ t, Region.schedule (E.P.follows .mixedOrders) ops t = Region.linearise.go .any ops ops.size t (Array.replicate ops.size false) [] := fun t => by
    simp only [Region.schedule, hm, Bool.true_or, if_true]
    rfl
   have h1 := step_region_draw (P := E.P) (b := b) (a := a) (k := k) (cs := cs) (w := w.taped T) (ops := ops) (id := id)
   rw [e] at h1
   exact ⟨_, _, ⟨_, T, rfl, rfl⟩, .one h1⟩
 · rintro g1 w1 ⟨t, T, rfl, rfl⟩
   refine (ops_order hX hd J hstep hfin _ _ a w.drew t (by simp) (by simp) ?_ b k cs N hcs hA).taped T
   have e : (fun i => (Array.replicate ops.size false).getD i false) = fun _ => false := by funext i; exact getD_replicate_false _ _
   rw [e]
   exact h0
end KEnv
structure PhiK where
 says : Value → World → Prop
 stays : ∀ v w w', says v w → KB w w' → says v w'
def isK (x : Value) : PhiK := ⟨fun v _ => v = x, fun _ _ _ h _ => h⟩
def isBK (n : Nat) (xs : List Nat) : PhiK := ⟨fun v w => ∃ A c, v = .slice A n c ∧ Words .u8 w A xs ∧ n ≤ c, fun _ _ _ ⟨A, c, h1, h2, h3⟩ hb => ⟨A, c, h1, hb.words h2, h3⟩⟩
def isTK (n : Nat) (xs : List Nat) (e : Int) : PhiK := ⟨fun v w => ∃ A c, v = .tuple #[.slice A n c, .int .i64 e] ∧ Words .u8 w A xs ∧ n ≤ c, fun _ _ _ ⟨A, c, h1, h2, h3⟩ hb => ⟨A, c, h1, hb.words h2, h3⟩⟩
structure JK (W0 : World) (ds : List Nat) (ps : List PhiK) (L : Nat → Bool) (s : Nat → Value) (w : World) : Prop where
 kb : KB W0 w
 val : ∀ i, i < ds.length → L i = true → (ps.getD i (isK undef)).says (s (ds.getD i 0)) w
theorem KB.drew (w : World) : KB w w.drew := KB.of ((Below.refl _ _).drewN 1)
theorem JK.step {W0 : World} {ds : List Nat} {ps : List PhiK} {L : Nat → Bool} {s : Nat → Value} {w w' : World} (h : JK W0 ds ps L s w) (hn : ds.Nodup) (i : Nat) (hi : i < ds.length) (hb : KB w w') {v : Value} (hv : (ps.getD i (isK undef)).says v w') :
 JK W0 ds ps (updB L i) (updS s (some (ds.getD i 0)) v) w' :=
 ⟨h.kb.trans hb, fun j hj hL => by
   by_cases e : j = i
   · subst e; rw [updS_self]; exact hv
   · rw [updS_other (fun x => e (nodup_getD hn hj hi x))]
     rw [updB_other e] at hL
     exact (ps.getD j (isK undef)).stays _ _ _ (h.val j hj hL) hb⟩
namespace KEnv
variable {E : KEnv} {Q : Exit → Go.Act → World → Prop}
def StepK (E : KEnv) (l : List Oper) (Q : Exit → Go.Act → World → Prop) (deps : List (List Nat)) (a0 : Go.Act) (w0 : World) (ds : List Nat) (ps : List PhiK) (i : Nat) (o : Oper) : Prop :=
 ∀ (L : Nat → Bool) s w (lr : List Nat), JK w0 ds ps L s w → (∀ d ∈ deps.getD i [], L d = true) → (∀ v w', KB w w' → (ps.getD i (isK undef)).says v w' → E.Ops l.toArray lr Q ((actOf a0 ds s).put o.dst v) w') → E.Ops l.toArray (i :: lr) Q (actOf a0 ds s) w
theorem stepsK_nil {l0 : List Oper} {deps : List (List Nat)} {a0 : Go.Act} {w0 : World} {ds : List Nat} {ps : List PhiK} {n : Nat} : ∀ i o, ([] : List Oper)[i]? = some o → StepK E l0 Q deps a0 w0 ds ps (n + i) o := fun i o h => by simp at h
theorem stepsK_cons {l0 : List Oper} {deps : List (List Nat)} {a0 : Go.Act} {w0 : World} {ds : List Nat} {ps : List PhiK} {n : Nat} {o0 : Oper} {l : List Oper} (h : StepK E l0 Q deps a0 w0 ds ps n o0)
 (hs : ∀ i o, l[i]? = some o → StepK E l0 Q deps a0 w0 ds ps (n + 1 + i) o) : ∀ i o, (o0 :: l)[i]? = some o → StepK E l0 Q deps a0 w0 ds ps (n + i) o
 | 0, o, he => by simp at he; subst he; exact h
 | i + 1, o, he => by
   have := hs i o (by simpa using he)
   rwa [show n + 1 + i = n + (i + 1) by omega] at this
def dstsAt (l : List Oper) (ds : List Nat) : Bool := decide ds.Nodup && decide (ds.length = l.length) && (List.range l.length).all fun i => match l[i]? with | some o => o.dst == some (ds.getD i 0) | none => false
theorem wk_steps (hX : E.Tight) {id : Nat} {l : List Oper} {a0 : Go.Act} {w0 : World} (hm : E.P.follows .mixedOrders = true) (deps : List (List Nat)) (hd : depsOk l.toArray deps = true) (ds : List Nat) (hds : dstsAt l ds = true) (ps : List PhiK)
 (hstep : ∀ i o, l[i]? = some o → StepK E l Q deps a0 w0 ds ps (0 + i) o)
 (hfin : ∀ s w, KB w0 w → (∀ i, i < ds.length → (ps.getD i (isK undef)).says (s (ds.getD i 0)) w) → Q .normal (actOf a0 ds s) w) : E.Wk (.region id l.toArray true) Q a0 w0 := by
 unfold dstsAt at hds
 simp only [Bool.and_eq_true, decide_eq_true_eq] at hds
 obtain ⟨⟨hnd, hlen⟩, hall⟩ := hds
 refine wk_draw hX hm hd (fun L a w => ∃ s, a = actOf a0 ds s ∧ JK w0 ds ps L s w) ⟨_, (actOf_own ds a0).symm, KB.drew w0, fun i _ h => by cases h⟩ ?_ ?_
 · rintro L _ w i o lr ho ⟨s, rfl, hJ⟩ hL0 hdp K
   have ho' : l[i]? = some o := by simpa using ho
   have hi : i < l.length := (List.getElem?_eq_some_iff.1 ho').1
   have hdst : o.dst = some (ds.getD i 0) := by
    have := List.all_eq_true.1 hall i (List.mem_range.2 hi)
    rw [ho'] at this
    simpa using this
   have h1 := hstep i o ho'
   rw [Nat.zero_add] at h1
   refine h1 L s w lr hJ hdp fun v w' hb hv => K _ _ ⟨updS s (some (ds.getD i 0)) v, ?_, hJ.step hnd i (by omega) hb hv⟩
   rw [hdst]
   refine actOf_upd ds a0 s _ v ?_ hnd
   rw [List.getD_eq_getElem?_getD, List.getElem?_eq_getElem (by omega)]
   exact List.getElem_mem _
 · rintro L _ w hL ⟨s, rfl, hJ⟩
   exact hfin s w hJ.kb fun i hi => hJ.val i hi (hL i (by simp; omega))
end KEnv
end Go.Proofs.YtenffmfklmialaaGreatDoor.Co
end

namespace Go.Proofs.YtenffmfklmialaaGreatDoor.Al
open Go.RowKit Rw
section
set_option maxRecDepth 20000
def wdL : List (List UInt8) := [[], [115, 104, 97, 50, 50, 52], [115, 104, 97, 50, 53, 54], [115, 104, 97, 51, 56, 52], [115, 104, 97, 53, 49, 50], [115, 104, 97, 53, 49, 50, 45, 50, 50, 52], [115, 104, 97, 53, 49, 50, 45, 50, 53, 54], [115, 104, 97, 51, 45, 50, 50, 52], [115, 104, 97, 51, 45, 50, 53, 54], [115, 104, 97, 51, 45, 51, 56, 52], [115, 104, 97, 51, 45, 53, 49, 50], [115, 104, 97, 107, 101, 49, 50, 56], [115, 104, 97, 107, 101, 50, 53, 54], [99, 115, 104, 97, 107, 101, 49, 50, 56], [99, 115, 104, 97, 107, 101, 50, 53, 54]]
def kdL : List Nat := [0, 1, 1, 1, 1, 1, 1, 2, 2, 2, 2, 3, 3, 4, 4]
def dgL : List Nat := [0, 28, 32, 48, 64, 28, 32, 28, 32, 48, 64, 32, 64, 32, 64]
def bkL : List Nat := [0, 64, 64, 128, 128, 128, 128, 144, 136, 104, 72, 168, 136, 168, 136]
def wdS (i : Nat) : List UInt8 := wdL.getD i []
def kdN (i : Nat) : Nat := kdL.getD i 0
def dgN (i : Nat) : Nat := dgL.getD i 0
def bkN (i : Nat) : Nat := bkL.getD i 0
def txt (s : List UInt8) : Value := .string ⟨s.toArray⟩
def rowC (i : Nat) : Array Value := #[txt (wdS i), .int .i64 (kdN i : Nat), .int .i64 (dgN i : Nat), .int .i64 (bkN i : Nat)]
def tabL : List Value := (List.range 15).flatMap fun i => (rowC i).toList
def idx (n : Int) : Nat := if 0 ≤ n ∧ n < 15 then n.toNat else 0
theorem idx_nat {i : Nat} (h : i < 15) : idx (i : Nat) = i := by unfold idx; rw [if_pos ⟨by omega, by omega⟩]; rfl
theorem idx_out {n : Int} (h : ¬ (0 ≤ n ∧ n < 15)) : idx n = 0 := by unfold idx; rw [if_neg h]
theorem idx_lt (n : Int) : idx n < 15 := by unfold idx; split <;> omega
structure ATab (w : World) : Prop where
 rows : Tab w 0 tabL
theorem tabL_at (i j : Nat) (hi : i < 15) (v : Value) (hj : (rowC i).toList[j]? = some v) : tabL[i * 4 + j]? = some v := by
 have : ∀ i, i < 15 → ∀ j, j < 4 → tabL[i * 4 + j]? = (rowC i).toList[j]? := by
  intro i hi j hj
  match i, hi with
  | 0, _ => match j, hj with | 0, _ => rfl | 1, _ => rfl | 2, _ => rfl | 3, _ => rfl | j + 4, h => omega
  | 1, _ => match j, hj with | 0, _ => rfl | 1, _ => rfl | 2, _ => rfl | 3, _ => rfl | j + 4, h => omega
  | 2, _ => match j, hj with | 0, _ => rfl | 1, _ => rfl | 2, _ => rfl | 3, _ => rfl | j + 4, h => omega
  | 3, _ => match j, hj with | 0, _ => rfl | 1, _ => rfl | 2, _ => rfl | 3, _ => rfl | j + 4, h => omega
  | 4, _ => match j, hj with | 0, _ => rfl | 1, _ => rfl | 2, _ => rfl | 3, _ => rfl | j + 4, h => omega
  | 5, _ => match j, hj with | 0, _ => rfl | 1, _ => rfl | 2, _ => rfl | 3, _ => rfl | j + 4, h => omega
  | 6, _ => match j, hj with | 0, _ => rfl | 1, _ => rfl | 2, _ => rfl | 3, _ => rfl | j + 4, h => omega
  | 7, _ => match j, hj with | 0, _ => rfl | 1, _ => rfl | 2, _ => rfl | 3, _ => rfl | j + 4, h => omega
  | 8, _ => match j, hj with | 0, _ => rfl | 1, _ => rfl | 2, _ => rfl | 3, _ => rfl | j + 4, h => omega
  | 9, _ => match j, hj with | 0, _ => rfl | 1, _ => rfl | 2, _ => rfl | 3, _ => rfl | j + 4, h => omega
  | 10, _ => match j, hj with | 0, _ => rfl | 1, _ => rfl | 2, _ => rfl | 3, _ => rfl | j + 4, h => omega
  | 11, _ => match j, hj with | 0, _ => rfl | 1, _ => rfl | 2, _ => rfl | 3, _ => rfl | j + 4, h => omega
  | 12, _ => match j, hj with | 0, _ => rfl | 1, _ => rfl | 2, _ => rfl | 3, _ => rfl | j + 4, h => omega
  | 13, _ => match j, hj with | 0, _ => rfl | 1, _ => rfl | 2, _ => rfl | 3, _ => rfl | j + 4, h => omega
  | 14, _ => match j, hj with | 0, _ => rfl | 1, _ => rfl | 2, _ => rfl | 3, _ => rfl | j + 4, h => omega
  | i + 15, h => omega
 have hj4 : j < 4 := by
  rcases Nat.lt_or_ge j 4 with h | h
  · exact h
  · rw [List.getElem?_eq_none (show (rowC i).toList.length ≤ j from h)] at hj; cases hj
 rw [this i hi j hj4, hj]
theorem ATab.cell {w : World} (h : ATab w) {i j : Nat} (hi : i < 15) {v : Value} (hj : (rowC i).toList[j]? = some v) : w.cell? ⟨0, i * 4 + j, none⟩ = some v := h.rows _ _ (tabL_at i j hi v hj)
theorem ATab.lt {w : World} (h : ATab w) : 0 < w.heap.size := block_lt_of_cell (h.cell (i := 0) (j := 0) (by omega) rfl)
theorem ATab.below {w w' : World} (h : ATab w) {B : Nat} (hb : Below B w w') (hB : w.heap.size ≤ B) : ATab w' := ⟨h.rows.below hb hB⟩
theorem al_ret {P : Program} {fn : Func} {T : TypeId} {d : TypeDesc} {Q : Ending → World → Prop} {a : Act} {w : World} {n p k : Nat} {c : Array Value} (hr : fn.results = #[.cell p T]) (hp : a.tmps.getD p undef = .pointer (some ⟨n, 0, none⟩)) (hn : RowOk w n k) (hv : rowAt w n = c)
 (hu : P.underlying T = some d) (hdd : (match d with | .struct _ | .array _ _ => true | _ => false) = true) (hi : (P.info? T).map (·.size) = some k) (hd : a.defers = []) (hQ : Q (.returned (.agg c)) w) : bodyPost P fn Q .ret a w := by
 obtain ⟨t, hg, hs⟩ := hn.heap
 rw [hv] at hg hs
 exact bodyPost_ret (results_cell_row hr _ _ n t _ (0, 0) _ hp hg hu hdd (by rw [hs, hi])) hd hQ
theorem load18 (x : Value) : Instr.loadAt 55 x = loadRow 55 x := rfl
theorem store18 (x y : Value) : Instr.storeAt 55 x y = storeRow 55 x y := rfl
theorem run_store18 {w : World} {n : Nat} {c' : Array Value} (hg : RowOk w n 4) (hs' : c'.size = 4) (h1 : OneCells c') :
 (storeRow 55 (.pointer (some ⟨n, 0, none⟩)) (.agg c')).run Star.prog w = .ok () (w.setRow n c') := storeAt_row hg (by kernel_rfl) hs' h1
theorem rowC_size (i : Nat) : (rowC i).size = 4 := rfl
theorem rowC_ones (i : Nat) : OneCells (rowC i) := by
 unfold OneCells rowC txt
 simp [Value.oneCell']
theorem zero18 (w : World) : (zeroValue 55).run Star.prog w = .ok (.agg (rowC 0)) w := by kernel_rfl
attribute [local go_sem ↓] load18 store18 zero18
theorem run_load18 {w : World} (h : ATab w) {i : Nat} (hi : i < 15) : (loadRow 55 (.pointer (some ⟨0, i * 4, none⟩))).run Star.prog w = .ok (.agg (rowC i)) w :=
 run_loadAt_mid (P := Star.prog) w 0 (i * 4) 55 (rowC i).toList _ (fun j u hj => h.cell hi hj) Star.underlying55 rfl (by show _ = some 4; kernel_rfl)
set_option maxRecDepth 20000 in
theorem rowOf_any (n : Int) (w : World) (hT : ATab w) : Calls Star.prog 31 #[.int .i64 n] w fun e w' => e = .returned (.agg (rowC (idx n))) ∧ Below w.heap.size w w' := by
 have HT := Lib.hid hT
 clear hT
 have hw1 := Hold.new w (rowC 0) 55 4 rfl
 have hb1 := (Below.refl w.heap.size w).alloc (Nat.le_refl _) (.cells (rowC 0) 55)
 by_cases h0 : n < 0
 · rw [idx_out (by omega)]
   have s1 := run_store18 hw1.ok (rowC_size 0) (rowC_ones 0)
   have HO := Lib.hid hw1
   have HB := Lib.hid hb1
   clear hw1 hb1
   go_enter Star.func31, Star.ntmps31
   go_wp2_with fail
   (try rw [Exit.noGoto_ret])
   exact al_ret (p := 2) rfl rfl HO.out.ok HO.out.at' Star.underlying55 rfl (by kernel_rfl) rfl ⟨rfl, HB.out⟩
 · by_cases h1 : 15 ≤ n
   · rw [idx_out (by omega)]
     have s1 := run_store18 hw1.ok (rowC_size 0) (rowC_ones 0)
     have HO := Lib.hid hw1
     have HB := Lib.hid hb1
     clear hw1 hb1
     go_enter Star.func31, Star.ntmps31
     go_wp2_with fail
     (try rw [Exit.noGoto_ret])
     exact al_ret (p := 2) rfl rfl HO.out.ok HO.out.at' Star.underlying55 rfl (by kernel_rfl) rfl ⟨rfl, HB.out⟩
   · obtain ⟨i, rfl⟩ := Int.eq_ofNat_of_zero_le (show 0 ≤ n by omega)
     have hi : i < 15 := by omega
     rw [idx_nat hi]
     have s1 := run_store18 hw1.ok (rowC_size i) (rowC_ones i)
     have l1 := run_load18 (HT.out.below hb1 (Nat.le_refl _)) hi
     have HO := Lib.hid (Hold.new w (rowC i) 55 4 rfl)
     have HB := Lib.hid ((Below.refl w.heap.size w).alloc (Nat.le_refl _) (.cells (rowC i) 55))
     clear hw1 hb1
     go_enter Star.func31, Star.ntmps31
     go_wp2_with fail
     (try rw [Exit.noGoto_ret])
     exact al_ret (p := 2) rfl rfl HO.out.ok HO.out.at' Star.underlying55 rfl (by kernel_rfl) rfl ⟨rfl, HB.out⟩
theorem run_field18_0 (a b c d : Value) (w : World) : (Instr.field 55 (.agg #[a, b, c, d]) 0).run Star.prog w = .ok a w := by kernel_rfl
theorem run_field18_1 (a b c d : Value) (w : World) : (Instr.field 55 (.agg #[a, b, c, d]) 1).run Star.prog w = .ok b w := by kernel_rfl
theorem run_field18_2 (a b c d : Value) (w : World) : (Instr.field 55 (.agg #[a, b, c, d]) 2).run Star.prog w = .ok c w := by kernel_rfl
theorem run_field18_3 (a b c d : Value) (w : World) : (Instr.field 55 (.agg #[a, b, c, d]) 3).run Star.prog w = .ok d w := by kernel_rfl
attribute [local go_sem] run_field18_0 run_field18_1 run_field18_2 run_field18_3
theorem kind_any (n : Int) (w : World) (hT : ATab w) : Calls Star.prog 18 #[.int .i64 n] w fun e w' => e = .returned (.int .i64 (kdN (idx n) : Nat)) ∧ Below w.heap.size w w' := by
 have HR := Lib.hid (rowOf_any n w hT)
 clear hT
 go_enter Star.func18, Star.ntmps18
 go_wp2_with (go_at_call 31; refine HR.out.mono ?_; rintro e w1 ⟨rfl, hb1⟩; have HB := Lib.hid hb1; clear hb1; unfold rowC)
 (try rw [Exit.noGoto_ret])
 go_ret
 exact ⟨rfl, HB.out⟩
theorem digest_any (n : Int) (w : World) (hT : ATab w) : Calls Star.prog 20 #[.int .i64 n] w fun e w' => e = .returned (.int .i64 (dgN (idx n) : Nat)) ∧ Below w.heap.size w w' := by
 have HR := Lib.hid (rowOf_any n w hT)
 clear hT
 go_enter Star.func20, Star.ntmps20
 go_wp2_with (go_at_call 31; refine HR.out.mono ?_; rintro e w1 ⟨rfl, hb1⟩; have HB := Lib.hid hb1; clear hb1; unfold rowC)
 (try rw [Exit.noGoto_ret])
 go_ret
 exact ⟨rfl, HB.out⟩
theorem block_any (n : Int) (w : World) (hT : ATab w) : Calls Star.prog 51 #[.int .i64 n] w fun e w' => e = .returned (.int .i64 (bkN (idx n) : Nat)) ∧ Below w.heap.size w w' := by
 have HR := Lib.hid (rowOf_any n w hT)
 clear hT
 go_enter Star.func51, Star.ntmps51
 go_wp2_with (go_at_call 31; refine HR.out.mono ?_; rintro e w1 ⟨rfl, hb1⟩; have HB := Lib.hid hb1; clear hb1; unfold rowC)
 (try rw [Exit.noGoto_ret])
 go_ret
 exact ⟨rfl, HB.out⟩
theorem reads_any (n : Int) (w : World) (hT : ATab w) : Calls Star.prog 16 #[.int .i64 n] w fun e w' => e = .returned (.bool (decide (kdN (idx n) = 3) || decide (kdN (idx n) = 4))) ∧ Below w.heap.size w w' := by
 have HK := Lib.hid (fun w h => kind_any n w h)
 have HT := Lib.hid hT
 clear hT
 generalize kdN (idx n) = k at *
 have h3 : Hid ((((k : Nat) : Int) == 3) = decide (k = 3)) := Lib.hid (by by_cases h : k = 3 <;> simp [h]; omega)
 have h4 : Hid ((((k : Nat) : Int) == 4) = decide (k = 4)) := Lib.hid (by by_cases h : k = 4 <;> simp [h]; omega)
 by_cases hk : k = 3
 · have e3 : ((k : Int) == 3) = true := by rw [h3.out]; simp [hk]
   have HK3 := Lib.hid hk
   clear hk
   go_enter Star.func16, Star.ntmps16
   go_wp2_with (go_at_call 18; refine (HK.out _ HT.out).mono ?_; rintro e w1 ⟨rfl, hb1⟩; have HB := Lib.hid hb1; clear hb1)
   (try rw [Exit.noGoto_ret])
   go_ret
   exact ⟨by rw [HK3.out]; rfl, HB.out⟩
 · have e3 : ((k : Int) == 3) = false := by rw [h3.out]; simp [hk]
   have HK3 := Lib.hid hk
   clear hk
   go_enter Star.func16, Star.ntmps16
   go_wp2_with (go_at_call 18; first | ((with_reducible refine (HK.out _ HT2.out).mono ?_); rintro e w2 ⟨rfl, hb2⟩; have HB2 := Lib.hid (HB.out.trans (hb2.mono HB.out.size)); clear hb2) | ((with_reducible refine (HK.out _ HT.out).mono ?_); rintro e w1 ⟨rfl, hb1⟩; have HB := Lib.hid hb1; have HT2 := Lib.hid (HT.out.below hb1 (Nat.le_refl _)); clear hb1))
   (try rw [Exit.noGoto_ret])
   go_ret
   exact ⟨by rw [h4.out]; simp [HK3.out], HB2.out⟩
end
section
set_option maxRecDepth 20000
theorem idx_low {n : Int} (h : n < 1) : idx n = 0 := by unfold idx; split <;> omega
theorem idx_big {n : Int} (h : 14 < n) : idx n = 0 := by unfold idx; rw [if_neg (by omega)]
theorem one_of {n : Int} (h1 : ¬ n < 1) (h2 : ¬ 14 < n) : n = 1 ∨ n = 2 ∨ n = 3 ∨ n = 4 ∨ n = 5 ∨ n = 6 ∨ n = 7 ∨ n = 8 ∨ n = 9 ∨ n = 10 ∨ n = 11 ∨ n = 12 ∨ n = 13 ∨ n = 14 := by omega
set_option maxRecDepth 20000 in
theorem refDigest_any (n : Int) (w : World) : Calls Star.prog 24 #[.int .i64 n] w fun e w' => e = .returned (.int .i64 (dgN (idx n) : Nat)) ∧ Below w.heap.size w w' := by
 by_cases h1 : n < 1
 · rw [idx_low h1]
   go_enter Star.func24, Star.ntmps24
   go_wp2_with fail
   (try rw [Exit.noGoto_ret])
   go_ret
   exact ⟨rfl, Below.refl _ _⟩
 · by_cases h2 : 14 < n
   · rw [idx_big h2]
     go_enter Star.func24, Star.ntmps24
     go_wp2_with fail
     (try rw [Exit.noGoto_ret])
     go_ret
     exact ⟨rfl, Below.refl _ _⟩
   · rcases one_of h1 h2 with rfl | rfl | rfl | rfl | rfl | rfl | rfl | rfl | rfl | rfl | rfl | rfl | rfl | rfl
     all_goals
      clear h1 h2
      go_enter Star.func24, Star.ntmps24
      go_wp2_with fail
      (try rw [Exit.noGoto_ret])
      go_ret
      exact ⟨rfl, (Below.refl _ w).alloc (Nat.le_refl _) _⟩
set_option maxRecDepth 20000 in
theorem refKind_any (n : Int) (w : World) : Calls Star.prog 21 #[.int .i64 n] w fun e w' => e = .returned (.int .i64 (kdN (idx n) : Nat)) ∧ w = w' := by
 by_cases h1 : n < 1
 · rw [idx_low h1]
   go_enter Star.func21, Star.ntmps21
   go_wp2_with fail
   (try rw [Exit.noGoto_ret])
   go_ret
   exact ⟨rfl, rfl⟩
 · by_cases h2 : 14 < n
   · rw [idx_big h2]
     go_enter Star.func21, Star.ntmps21
     go_wp2_with fail
     (try rw [Exit.noGoto_ret])
     go_ret
     exact ⟨rfl, rfl⟩
   · rcases one_of h1 h2 with rfl | rfl | rfl | rfl | rfl | rfl | rfl | rfl | rfl | rfl | rfl | rfl | rfl | rfl
     all_goals
      clear h1 h2
      go_enter Star.func21, Star.ntmps21
      go_wp2_with fail
      (try rw [Exit.noGoto_ret])
      go_ret
      exact ⟨rfl, rfl⟩
set_option maxRecDepth 20000 in
theorem refBlock_any (n : Int) (w : World) : Calls Star.prog 43 #[.int .i64 n] w fun e w' => e = .returned (.int .i64 (bkN (idx n) : Nat)) ∧ w = w' := by
 by_cases h1 : n < 1
 · rw [idx_low h1]
   have k1 : (n == 1) = false := by rw [beq_eq_false_iff_ne]; omega
   have k2 : (n == 2) = false := by rw [beq_eq_false_iff_ne]; omega
   have k3 : (n == 3) = false := by rw [beq_eq_false_iff_ne]; omega
   have k4 : (n == 4) = false := by rw [beq_eq_false_iff_ne]; omega
   have k5 : (n == 5) = false := by rw [beq_eq_false_iff_ne]; omega
   have k6 : (n == 6) = false := by rw [beq_eq_false_iff_ne]; omega
   have k7 : (n == 7) = false := by rw [beq_eq_false_iff_ne]; omega
   have k8 : (n == 8) = false := by rw [beq_eq_false_iff_ne]; omega
   have k12 : (n == 12) = false := by rw [beq_eq_false_iff_ne]; omega
   have k14 : (n == 14) = false := by rw [beq_eq_false_iff_ne]; omega
   have k9 : (n == 9) = false := by rw [beq_eq_false_iff_ne]; omega
   have k10 : (n == 10) = false := by rw [beq_eq_false_iff_ne]; omega
   have k11 : (n == 11) = false := by rw [beq_eq_false_iff_ne]; omega
   have k13 : (n == 13) = false := by rw [beq_eq_false_iff_ne]; omega
   go_enter Star.func43, Star.ntmps43
   go_wp2_with fail
   (try rw [Exit.noGoto_ret])
   go_ret
   exact ⟨rfl, rfl⟩
 · by_cases h2 : 14 < n
   · rw [idx_big h2]
     have k1 : (n == 1) = false := by rw [beq_eq_false_iff_ne]; omega
     have k2 : (n == 2) = false := by rw [beq_eq_false_iff_ne]; omega
     have k3 : (n == 3) = false := by rw [beq_eq_false_iff_ne]; omega
     have k4 : (n == 4) = false := by rw [beq_eq_false_iff_ne]; omega
     have k5 : (n == 5) = false := by rw [beq_eq_false_iff_ne]; omega
     have k6 : (n == 6) = false := by rw [beq_eq_false_iff_ne]; omega
     have k7 : (n == 7) = false := by rw [beq_eq_false_iff_ne]; omega
     have k8 : (n == 8) = false := by rw [beq_eq_false_iff_ne]; omega
     have k12 : (n == 12) = false := by rw [beq_eq_false_iff_ne]; omega
     have k14 : (n == 14) = false := by rw [beq_eq_false_iff_ne]; omega
     have k9 : (n == 9) = false := by rw [beq_eq_false_iff_ne]; omega
     have k10 : (n == 10) = false := by rw [beq_eq_false_iff_ne]; omega
     have k11 : (n == 11) = false := by rw [beq_eq_false_iff_ne]; omega
     have k13 : (n == 13) = false := by rw [beq_eq_false_iff_ne]; omega
     go_enter Star.func43, Star.ntmps43
     go_wp2_with fail
     (try rw [Exit.noGoto_ret])
     go_ret
     exact ⟨rfl, rfl⟩
   · rcases one_of h1 h2 with rfl | rfl | rfl | rfl | rfl | rfl | rfl | rfl | rfl | rfl | rfl | rfl | rfl | rfl
     all_goals
      clear h1 h2
      go_enter Star.func43, Star.ntmps43
      go_wp2_with fail
      (try rw [Exit.noGoto_ret])
      go_ret
      exact ⟨rfl, rfl⟩
end
end Go.Proofs.YtenffmfklmialaaGreatDoor.Al

namespace Go.Proofs.YtenffmfklmialaaGreatDoor.Dg
section
open Go.RowKit Go.MapKept Rw Sg L64 Cd Al
set_option maxRecDepth 20000
def chk (k : Nat) (xs ys : List Nat) : Nat := if k = 0 then 3 else if k = 4 then (if nmR xs ys then 0 else 1) else if nmE xs ys then 0 else 1
theorem kd_le : ∀ i, i < 15 → kdN i ≤ 4 := by decide +kernel
def S19 (k : Nat) (xs ys : List Nat) : Nat := if k = 2 then 6 else if k = 3 then 31 else sufOf xs ys
def P19 (k R : Nat) (xs ys : List Nat) : List Nat := if k = 4 then px17 R xs ys else []
theorem P19_lt (k R : Nat) {xs ys : List Nat} (hx : AllLt 256 xs) (hy : AllLt 256 ys) : AllLt 256 (P19 k R xs ys) := by
 unfold P19; split
 · exact px17_lt R hx hy
 · intro x h; simp at h
theorem S19_lt (k : Nat) (xs ys : List Nat) : S19 k xs ys < 128 := by
 unfold S19 sufOf; split
 · omega
 · split
   · omega
   · split <;> omega
theorem rate19 : ∀ i, i < 15 → 2 ≤ kdN i → 1 ≤ bkN i ∧ bkN i ≤ 200 := by decide +kernel
theorem ok19_2 : ∀ i, i < 15 → kdN i = 2 → okB (bkN i : Nat) 6 0 false = true := by decide +kernel
theorem ok19_3 : ∀ i, i < 15 → kdN i = 3 → okB (bkN i : Nat) 31 0 false = true := by decide +kernel
theorem named19 {alg : Int} (h : kdN (idx alg) = 4) : (alg = 13 ∨ alg = 14) := by
 have h0 : ∀ i, i < 15 → kdN i = 4 → i = 13 ∨ i = 14 := by decide +kernel
 have h1 := h0 _ (idx_lt alg) h
 unfold idx at h1
 split at h1 <;> omega
def bits19 (alg : Int) : Int := if alg = 13 then 128 else 256
theorem bits19_ok (alg : Int) : bits19 alg = 128 ∨ bits19 alg = 256 := by unfold bits19; split <;> simp
theorem bits19_rate {alg : Int} (h : kdN (idx alg) = 4) : rateOf (bits19 alg) = bkN (idx alg) := by
 rcases named19 h with rfl | rfl <;> decide +kernel
theorem check_any (alg : Int) (A1 : Option Addr) (c1 : Nat) (xs1 : List Nat) (A2 : Option Addr) (c2 : Nat) (xs2 : List Nat) (w : World) (hT : ATab w) (hN : NmOk w A1 xs1 A2 xs2) :
 Calls Star.prog 15 #[.int .i64 alg, .agg #[.slice A1 xs1.length c1, .slice A2 xs2.length c2]] w fun e w' => e = .returned (.int .i64 (chk (kdN (idx alg)) xs1 xs2 : Nat)) ∧ Below w.heap.size w w' := by
 have hB := (Below.refl w.heap.size w).alloc (Nat.le_refl _) (.cells #[.slice A1 xs1.length c1, .slice A2 xs2.length c2] 29)
 have HA := Lib.hid (NmAt.mk (Hold.new w #[.slice A1 xs1.length c1, .slice A2 xs2.length c2] 29 2 rfl))
 have HN := Lib.hid (hN.call hB)
 have HT := Lib.hid (hT.below hB (Nat.le_refl _))
 have HB := Lib.hid hB
 have HR := Lib.hid (fun W => right17_any A1 xs1.length c1 A2 xs2.length c2 W)
 rw [show (decide (xs1.length ≤ 1000) && decide (xs2.length ≤ 1000)) = nmR xs1 xs2 from rfl] at HR
 have HK := Lib.hid (fun W h => kind_any alg W h)
 have HS : Hid (∀ W, NmOk W A1 xs1 A2 xs2 → Calls Star.prog 27 #[.agg #[.slice A1 xs1.length c1, .slice A2 xs2.length c2], .agg #[.slice none 0 0, .slice none 0 0]] W fun e w' => e = .returned (.bool (nmE xs1 xs2)) ∧ Below W.heap.size W w') := fun W h =>
  same17_any A1 c1 xs1 A2 c2 xs2 none 0 [] none 0 [] h.x1 h.x2 (by intro x h; simp at h) (by intro x h; simp at h) W h.w1 h.w2 (fun i hi => by simp at hi) (fun i hi => by simp at hi)
 have hk := kd_le _ (idx_lt alg)
 unfold chk
 generalize kdN (idx alg) = k at *
 generalize nmR xs1 xs2 = r at *
 generalize nmE xs1 xs2 = em at *
 generalize xs1.length = n1 at *
 generalize xs2.length = n2 at *
 clear hT hN hB
 have hk5 : k = 0 ∨ k = 1 ∨ k = 2 ∨ k = 3 ∨ k = 4 := by omega
 clear hk
 rcases hk5 with rfl | rfl | rfl | rfl | rfl
 all_goals cases r <;> cases em
 all_goals
  go_enter Star.func15, Star.ntmps15
  go_wp2_with (first
   | (go_at_call 26; refine (HR.out _).mono ?_; rintro e u1 ⟨rfl, hb1⟩; have HA1 := Lib.hid (HA.out.call hb1); have HN1 := Lib.hid (HN.out.call hb1); have HT1 := Lib.hid (HT.out.below hb1 (Nat.le_refl _)); have HB1 := Lib.hid (HB.out.trans (hb1.mono HB.out.size)); have q1 := HA1.out.c0; have q2 := HA1.out.c1; clear hb1)
   | (go_at_call 18; refine (HK.out _ HT1.out).mono ?_; rintro e u2 ⟨rfl, hb2⟩; clear q1 q2; have HA2 := Lib.hid (HA1.out.call hb2); have HN2 := Lib.hid (HN1.out.call hb2); have HB2 := Lib.hid (HB1.out.trans (hb2.mono HB1.out.size)); have q1 := HA2.out.c0; have q2 := HA2.out.c1; clear hb2)
   | (go_at_call 27; refine (HS.out _ HN2.out).mono ?_; rintro e u3 ⟨rfl, hb3⟩; have HB3 := Lib.hid (HB2.out.trans (hb3.mono HB2.out.size)); clear hb3))
  (try rw [Exit.noGoto_ret])
  go_ret
  exact ⟨rfl, by first | exact HB3.out | exact HB2.out⟩
theorem bits_any (alg : Int) (w : World) : Calls Star.prog 53 #[.int .i64 alg] w fun e w' => e = .returned (.int .i64 (bits19 alg)) ∧ w = w' := by
 unfold bits19
 by_cases h : alg = 13
 · subst h
   go_enter Star.func53, Star.ntmps53
   go_wp2
   go_ret
   exact ⟨rfl, rfl⟩
 · rw [if_neg h]
   have e1 : (alg == 13) = false := beq_eq_false_iff_ne.2 h
   clear h
   go_enter Star.func53, Star.ntmps53
   go_wp2
   go_ret
   exact ⟨rfl, rfl⟩
theorem begun_plain (alg : Int) (hk : kdN (idx alg) = 2 ∨ kdN (idx alg) = 3) (A : Option Addr) (n c : Nat) (B : Option Addr) (m d : Nat) (xs1 xs2 : List Nat) (w : World) (hT : ATab w) :
 Calls Star.prog 28 #[.int .i64 alg, .agg #[.slice A n c, .slice B m d]] w fun e w' => ∃ np, e = .returned (.tuple #[.pointer (some ⟨np, 0, none⟩), .int .i64 0]) ∧ w.heap.size ≤ np ∧ Sp w' np (bkN (idx alg)) (S19 (kdN (idx alg)) xs1 xs2) (fun _ => 0) 0 false ∧ Below w.heap.size w w' := by
 have hB := (Below.refl w.heap.size w).alloc (Nat.le_refl _) (.cells #[.slice A n c, .slice B m d] 29)
 have HT := Lib.hid (hT.below hB (Nat.le_refl _))
 have HB := Lib.hid hB
 have HK := Lib.hid (fun W h => kind_any alg W h)
 have HBk := Lib.hid (fun W h => block_any alg W h)
 have HS : Hid (∀ S : Nat, okB (bkN (idx alg) : Nat) S 0 false = true → ∀ W, Calls Star.prog 50 #[.int .i64 (bkN (idx alg) : Nat), .int .i64 (S : Nat)] W fun e w' => ∃ np, e = .returned (.tuple #[.pointer (some ⟨np, 0, none⟩), .int .i64 0]) ∧ W.heap.size ≤ np ∧ Sp w' np (bkN (idx alg)) S (fun _ => 0) 0 false ∧ Below W.heap.size W w') := fun S hok W => (new_any _ _ W).mono fun e w' h => by
  have := h.1 hok
  rw [Int.toNat_natCast, Int.toNat_natCast] at this
  exact this
 have hlt := idx_lt alg
 unfold S19
 rcases hk with hk | hk
 · have HS6 := Lib.hid (HS.out 6 (ok19_2 _ hlt hk))
   rw [hk] at HK ⊢
   rw [if_pos rfl]
   clear HS hT hB hlt hk
   generalize bkN (idx alg) = R at *
   go_enter Star.func28, Star.ntmps28
   go_wp2_with (first
    | (go_at_call 18; refine (HK.out _ HT.out).mono ?_; rintro e u2 ⟨rfl, hb2⟩; have HT2 := Lib.hid (HT.out.below hb2 (Nat.le_refl _)); have HB2 := Lib.hid (HB.out.trans (hb2.mono HB.out.size)); clear hb2)
    | (go_at_call 51; refine (HBk.out _ HT2.out).mono ?_; rintro e u3 ⟨rfl, hb3⟩; have HB3 := Lib.hid (HB2.out.trans (hb3.mono HB2.out.size)); clear hb3)
    | (go_at_call 50; refine (HS6.out _).mono ?_; rintro e u4 ⟨np, rfl, hnp, hs, hb4⟩; have HSp := Lib.hid hs; have HNP := Lib.hid (Nat.le_trans HB3.out.size hnp); have HB4 := Lib.hid (HB3.out.trans (hb4.mono HB3.out.size)); clear hb4 hs hnp))
   (try rw [Exit.noGoto_ret])
   go_ret2
   exact ⟨np, rfl, HNP.out, HSp.out, HB4.out⟩
 · have HS6 := Lib.hid (HS.out 31 (ok19_3 _ hlt hk))
   rw [hk] at HK ⊢
   rw [if_neg (by decide), if_pos rfl]
   clear HS hT hB hlt hk
   generalize bkN (idx alg) = R at *
   go_enter Star.func28, Star.ntmps28
   go_wp2_with (first
    | (go_at_call 18; refine (HK.out _ HT.out).mono ?_; rintro e u2 ⟨rfl, hb2⟩; have HT2 := Lib.hid (HT.out.below hb2 (Nat.le_refl _)); have HB2 := Lib.hid (HB.out.trans (hb2.mono HB.out.size)); clear hb2)
    | (go_at_call 51; refine (HBk.out _ HT2.out).mono ?_; rintro e u3 ⟨rfl, hb3⟩; have HB3 := Lib.hid (HB2.out.trans (hb3.mono HB2.out.size)); clear hb3)
    | (go_at_call 50; refine (HS6.out _).mono ?_; rintro e u4 ⟨np, rfl, hnp, hs, hb4⟩; have HSp := Lib.hid hs; have HNP := Lib.hid (Nat.le_trans HB3.out.size hnp); have HB4 := Lib.hid (HB3.out.trans (hb4.mono HB3.out.size)); clear hb4 hs hnp))
   (try rw [Exit.noGoto_ret])
   go_ret2
   exact ⟨np, rfl, HNP.out, HSp.out, HB4.out⟩
theorem refCheck_any (alg : Int) (A1 : Option Addr) (c1 : Nat) (xs1 : List Nat) (A2 : Option Addr) (c2 : Nat) (xs2 : List Nat) (hl1 : xs1.length ≤ 1000000) (hl2 : xs2.length ≤ 1000000) (w : World) :
 Calls Star.prog 25 #[.int .i64 alg, .agg #[.slice A1 xs1.length c1, .slice A2 xs2.length c2]] w fun e w' => e = .returned (.int .i64 (chk (kdN (idx alg)) xs1 xs2 : Nat)) ∧ Below w.heap.size w w' := by
 have hB := (Below.refl w.heap.size w).alloc (Nat.le_refl _) (.cells #[.slice A1 xs1.length c1, .slice A2 xs2.length c2] 29)
 have HA := Lib.hid (NmAt.mk (Hold.new w #[.slice A1 xs1.length c1, .slice A2 xs2.length c2] 29 2 rfl))
 have HB := Lib.hid hB
 have HR := Lib.hid (fun W => refRight17_any A1 xs1.length c1 A2 xs2.length c2 W)
 rw [show (decide (xs1.length ≤ 1000) && decide (xs2.length ≤ 1000)) = nmR xs1 xs2 from rfl] at HR
 have HE := Lib.hid (fun W => refEmpty_any A1 xs1.length c1 A2 xs2.length c2 hl1 hl2 W)
 rw [← nmE_len] at HE
 have HK := Lib.hid (fun W => refKind_any alg W)
 have hk := kd_le _ (idx_lt alg)
 have hER : nmE xs1 xs2 = true → nmR xs1 xs2 = true := fun h => by
  unfold nmE at h; simp at h; unfold nmR; simp [h.1, h.2]
 unfold chk
 generalize kdN (idx alg) = k at *
 generalize nmR xs1 xs2 = r at *
 generalize nmE xs1 xs2 = em at *
 generalize xs1.length = n1 at *
 generalize xs2.length = n2 at *
 clear hB hl1 hl2
 have hk5 : k = 0 ∨ k = 1 ∨ k = 2 ∨ k = 3 ∨ k = 4 := by omega
 clear hk
 rcases hk5 with rfl | rfl | rfl | rfl | rfl
 all_goals cases r <;> cases em
 all_goals first
  | (exact absurd (hER rfl) (by decide))
  | skip
 all_goals
  clear hER
  go_enter Star.func25, Star.ntmps25
  go_wp2_with (first
   | (go_at_call 21; refine (HK.out _).mono ?_; rintro e u1 ⟨rfl, rfl⟩; have HA1 := HA; have HB1 := HB; have q1 := HA1.out.c0; have q2 := HA1.out.c1)
   | (go_at_call 45; refine (HE.out _).mono ?_; rintro e u2 ⟨rfl, hb2⟩; clear q1 q2; replace HA1 := Lib.hid (HA1.out.call hb2); replace HB1 := Lib.hid (HB1.out.trans (hb2.mono HB1.out.size)); have q1 := HA1.out.c0; have q2 := HA1.out.c1; clear hb2)
   | (go_at_call 10; refine (HR.out _).mono ?_; rintro e u3 ⟨rfl, hb3⟩; replace HB1 := Lib.hid (HB1.out.trans (hb3.mono HB1.out.size)); clear hb3))
  (try rw [Exit.noGoto_ret])
  go_ret
  exact ⟨rfl, HB1.out⟩
end
end Go.Proofs.YtenffmfklmialaaGreatDoor.Dg

namespace Go.Proofs.YtenffmfklmialaaGreatDoor.Co
section
open Go.Conc
open Go.RowKit L64 Rw Ln Sg Spo Cd Al Dg
theorem atab_taped {w : World} (h : ATab w) (T : Tape) : ATab (w.taped T) := ⟨h.rows⟩
theorem KB.atab {w w1 : World} (h : KB w w1) (hw : ATab w) : ATab w1 := by
 obtain ⟨T, h⟩ := h
 exact (atab_taped hw T).below h (Nat.le_refl _)
theorem KB.sp {w w1 : World} {n R S : Nat} {f : Nat → Nat} {p : Nat} {rd : Bool} (h : KB w w1) (hs : Sp w n R S f p rd) : Sp w1 n R S f p rd := by
 obtain ⟨T, h⟩ := h
 exact Hold.call (hold_taped hs T) h
def isPtr (B R S : Nat) (f : Nat → Nat) (p : Nat) : PhiK := ⟨fun v w => ∃ np, v = .pointer (some ⟨np, 0, none⟩) ∧ B ≤ np ∧ Sp w np R S f p false, fun _ _ _ ⟨np, h1, h2, h3⟩ hb => ⟨np, h1, h2, hb.sp h3⟩⟩
def isPE (B R S : Nat) (f : Nat → Nat) (p : Nat) : PhiK := ⟨fun v w => ∃ np, v = .tuple #[.pointer (some ⟨np, 0, none⟩), .int .i64 0] ∧ B ≤ np ∧ Sp w np R S f p false, fun _ _ _ ⟨np, h1, h2, h3⟩ hb => ⟨np, h1, h2, hb.sp h3⟩⟩
structure G19 (w u : World) (g : Nat) (A1 : Option Addr) (n1 c1 : Nat) (xs1 : List Nat) (A2 : Option Addr) (n2 c2 : Nat) (xs2 : List Nat) (A3 : Option Addr) (bs : List Nat) : Prop where
 kb : KB w u
 at' : NmAt u g (.slice A1 n1 c1) (.slice A2 n2 c2)
 nm : NmOk u A1 xs1 A2 xs2
 bw : Words .u8 u A3 bs
 ot : OTab u
 al : ATab u
section
variable {w u u' : World} {g : Nat} {A1 : Option Addr} {n1 c1 : Nat} {xs1 : List Nat} {A2 : Option Addr} {n2 c2 : Nat} {xs2 : List Nat} {A3 : Option Addr} {bs : List Nat}
theorem G19.taped (h : G19 w u g A1 n1 c1 xs1 A2 n2 c2 xs2 A3 bs) (T : Tape) : G19 w (u.taped T) g A1 n1 c1 xs1 A2 n2 c2 xs2 A3 bs :=
 ⟨h.kb.taped T, ⟨hold_taped h.at'.hold T⟩, ⟨h.nm.x1, h.nm.x2, h.nm.w1, h.nm.w2⟩, h.bw, otab_taped h.ot T, atab_taped h.al T⟩
theorem G19.call (h : G19 w u g A1 n1 c1 xs1 A2 n2 c2 xs2 A3 bs) (hb : Below u.heap.size u u') : G19 w u' g A1 n1 c1 xs1 A2 n2 c2 xs2 A3 bs :=
 ⟨h.kb.trans (KB.of hb), h.at'.call hb, h.nm.call hb, h.bw.below hb (Nat.le_refl _), h.ot.below hb (Nat.le_refl _), h.al.below hb (Nat.le_refl _)⟩
theorem G19.next (h : G19 w u g A1 n1 c1 xs1 A2 n2 c2 xs2 A3 bs) (hb : KB u u') : G19 w u' g A1 n1 c1 xs1 A2 n2 c2 xs2 A3 bs := by
 obtain ⟨T, hb⟩ := hb
 exact (h.taped T).call hb
theorem G19.size (h : G19 w u g A1 n1 c1 xs1 A2 n2 c2 xs2 A3 bs) : w.heap.size ≤ u.heap.size := h.kb.size
theorem G19.start (T : Tape) (hN : NmOk w A1 xs1 A2 xs2) (hB : Words .u8 w A3 bs) (hO : OTab w) (hT : ATab w) : G19 w ((w.taped T).alloc (.cells #[.slice A1 n1 c1, .slice A2 n2 c2] 29)) (w.taped T).heap.size A1 n1 c1 xs1 A2 n2 c2 xs2 A3 bs := by
 have hb := (Below.refl (w.taped T).heap.size (w.taped T)).alloc (Nat.le_refl _) (.cells #[.slice A1 n1 c1, .slice A2 n2 c2] 29)
 exact ⟨KB.ofT hb, ⟨Hold.new _ _ _ 2 rfl⟩, NmOk.call (w := w.taped T) ⟨hN.x1, hN.x2, hN.w1, hN.w2⟩ hb, Words.below (w := w.taped T) hB hb (Nat.le_refl _), (otab_taped hO T).below hb (Nat.le_refl _), (atab_taped hT T).below hb (Nat.le_refl _)⟩
end
def Beg19 (w : World) (R S : Nat) (P : List Nat) (v : Value) (w1 : World) : Prop :=
 ∃ np, v = .tuple #[.pointer (some ⟨np, 0, none⟩), .int .i64 0] ∧ w.heap.size ≤ np ∧ Sp w1 np R S (wB R (fun _ => 0) 0 P).1 (wB R (fun _ => 0) 0 P).2 false ∧ KB w w1
theorem Beg19.taped {w : World} {R S : Nat} {P : List Nat} {v : Value} {w1 : World} (h : Beg19 w R S P v w1) (T : Tape) : Beg19 w R S P v (w1.taped T) := by
 obtain ⟨np, h1, h2, h3, h4⟩ := h
 exact ⟨np, h1, h2, hold_taped h3 T, h4.taped T⟩
set_option maxRecDepth 20000 in
theorem ops_begun (W : World) {ops : Array Oper} {i : Nat} {l : List Nat} {o : Oper} {Q : Exit → Go.Act → World → Prop} {a : Go.Act} {w : World} {args : Array Operand} {ats : Array TypeId} (ho : ops[i]? = some o) (hw : Region.wanted o (yielded ops a.tmps) = true) (hx : o.op = .call { callee := .value (.func 28), args := args, argTypes := ats })
 (alg : Int) (hk : 2 ≤ kdN (idx alg)) (A1 : Option Addr) (c1 : Nat) (xs1 : List Nat) (A2 : Option Addr) (c2 : Nat) (xs2 : List Nat) (hl : kdN (idx alg) = 4 → xs1.length ≤ 1000 ∧ xs2.length ≤ 1000) (hvals : args.map a.eval = #[.int .i64 alg, .agg #[.slice A1 xs1.length c1, .slice A2 xs2.length c2]])
 (hN : NmOk w A1 xs1 A2 xs2) (hO : OTab w) (hT : ATab w) (hof : 4 < W.heap.size) (hWl : W.heap.size ≤ w.heap.size)
 (cont : ∀ v w1, Beg19 w (bkN (idx alg)) (S19 (kdN (idx alg)) xs1 xs2) (P19 (kdN (idx alg)) (bkN (idx alg)) xs1 xs2) v w1 → (lawEnv W).Ops ops l Q (a.put o.dst v) w1) : (lawEnv W).Ops ops (i :: l) Q a w := by
 have hkl := kd_le _ (idx_lt alg)
 by_cases h4 : kdN (idx alg) = 4
 · obtain ⟨hl1, hl2⟩ := hl h4
   have hr := bits19_rate h4
   have hS : S19 (kdN (idx alg)) xs1 xs2 = sufOf xs1 xs2 := by unfold S19; rw [h4]; rfl
   have hP : P19 (kdN (idx alg)) (bkN (idx alg)) xs1 xs2 = px17 (bkN (idx alg)) xs1 xs2 := by unfold P19; rw [if_pos h4]
   rw [hS, hP, ← hr] at cont
   clear hS hP hr
   refine KEnv.ops_callK (lawEnv_tight W) ho hw hx (fun args w => by show (callFunc 28 args).run Star.prog w = _; kernel_rfl) Star.func28 rfl (R := Beg19 w (rateOf (bits19 alg)) (sufOf xs1 xs2) (px17 (rateOf (bits19 alg)) xs1 xs2)) ?_ cont
   rw [hvals]
   simp only [Star.ntmps28, List.size_toArray, List.length_cons, List.length_nil, Nat.reduceAdd, Nat.reduceSub, Array.replicate_succ, Array.replicate_zero, List.push_toArray, List.append_toArray, List.nil_append, List.cons_append]
   have HK := Lib.hid (fun W h => kind_any alg W h)
   rw [h4] at HK
   refine KEnv.wk_then (lawEnv_tight W) fun T => ?_
   show Code.wp Star.prog _ _ _ _
   have F0 := Lib.hid (G19.start (n1 := xs1.length) (c1 := c1) (n2 := xs2.length) (c2 := c2) (A3 := none) (bs := []) T hN (fun i hi => by simp at hi) hO hT)
   go_wp2_with fail
   generalize (w.taped T).alloc (.cells #[.slice A1 xs1.length c1, .slice A2 xs2.length c2] 29) = w1 at *
   have hg : Hid ((w.taped T).heap.size = w.heap.size) := Lib.hid rfl
   generalize (w.taped T).heap.size = g at *
   refine KEnv.wk_then (lawEnv_tight W) fun T1 => ?_
   show Code.wp Star.prog _ _ _ _
   replace F0 := Lib.hid (F0.out.taped T1)
   generalize w1.taped T1 = w1 at *
   go_wp2_with fail
   refine KEnv.wk_seq (lawEnv_tight W) (KEnv.wk_then (lawEnv_tight W) fun T2 => ?_)
   show Code.wp Star.prog _ _ _ _
   replace F0 := Lib.hid (F0.out.taped T2)
   generalize w1.taped T2 = w1 at *
   go_wp2_with (go_at_call 18; refine (HK.out _ F0.out.al).mono ?_; rintro e u2 ⟨rfl, hb2⟩; replace F0 := Lib.hid (F0.out.call hb2); clear hb2)
   refine KEnv.wk_block (lawEnv_tight W) (KEnv.wk_seq (lawEnv_tight W) ?_)
   refine KEnv.wk_endk (lawEnv_tight W) (x := _) (fun a w h => h) fun T3 => ?_
   show Code.wp Star.prog _ _ _ _
   replace F0 := Lib.hid (F0.out.taped T3)
   generalize u2.taped T3 = u3 at *
   go_wp2_with fail
   refine KEnv.wk_seq (lawEnv_tight W) (KEnv.wk_seq (lawEnv_tight W) ?_)
   have hf0 : ∀ u, KB u3 u → W.heap.size ≤ u.heap.size := fun u h => Nat.le_trans hWl (Nat.le_trans F0.out.size h.size)
   refine KEnv.wk_steps (lawEnv_tight W) (by show Star.prog.follows .mixedOrders = true; kernel_rfl) [[], [0], [], [1, 2], [3], [3], [4], [5]] (by kernel_rfl) [21, 22, 23, 24, 25, 26, 4, 5] (by kernel_rfl)
    [isK (.int .i64 alg), isK (.int .i64 (bits19 alg)), isK (.agg #[.slice A1 xs1.length c1, .slice A2 xs2.length c2]), isPE w.heap.size (rateOf (bits19 alg)) (sufOf xs1 xs2) (wB (rateOf (bits19 alg)) (fun _ => 0) 0 (px17 (rateOf (bits19 alg)) xs1 xs2)).1 (wB (rateOf (bits19 alg)) (fun _ => 0) 0 (px17 (rateOf (bits19 alg)) xs1 xs2)).2, isPtr w.heap.size (rateOf (bits19 alg)) (sufOf xs1 xs2) (wB (rateOf (bits19 alg)) (fun _ => 0) 0 (px17 (rateOf (bits19 alg)) xs1 xs2)).1 (wB (rateOf (bits19 alg)) (fun _ => 0) 0 (px17 (rateOf (bits19 alg)) xs1 xs2)).2, isK (.int .i64 0),
     isPtr w.heap.size (rateOf (bits19 alg)) (sufOf xs1 xs2) (wB (rateOf (bits19 alg)) (fun _ => 0) 0 (px17 (rateOf (bits19 alg)) xs1 xs2)).1 (wB (rateOf (bits19 alg)) (fun _ => 0) 0 (px17 (rateOf (bits19 alg)) xs1 xs2)).2, isK (.int .i64 0)]
    (KEnv.stepsK_cons ?_ (KEnv.stepsK_cons ?_ (KEnv.stepsK_cons ?_ (KEnv.stepsK_cons ?_ (KEnv.stepsK_cons ?_ (KEnv.stepsK_cons ?_ (KEnv.stepsK_cons ?_ (KEnv.stepsK_cons ?_ KEnv.stepsK_nil)))))))) ?_
   · intro L s u lr h hd k
     simp only [actOf, List.foldl_cons, List.foldl_nil, Go.Act.put, List.setIfInBounds_toArray, List.set_cons_succ, List.set_cons_zero] at k ⊢
     exact KEnv.ops_value (lawEnv_tight W) (v := .int .i64 alg) rfl rfl (fun T => rfl) (k _ _ (KB.refl u) rfl)
   · intro L s u lr h hd k
     simp only [actOf, List.foldl_cons, List.foldl_nil, Go.Act.put, List.setIfInBounds_toArray, List.set_cons_succ, List.set_cons_zero] at k ⊢
     have e0 : s 21 = .int .i64 alg := h.val 0 (by decide) (hd 0 (by decide))
     refine KEnv.ops_calls (lawEnv_tight W) rfl rfl rfl (vals := #[.int .i64 alg]) (by simp only [List.map_toArray, List.map_cons, List.map_nil]; show #[s 21] = _; rw [e0]) (fun args w => by show (callFunc 53 args).run Star.prog w = _; kernel_rfl) (R := fun v w1 => v = .int .i64 (bits19 alg) ∧ KB u w1) (fun v w T h => ⟨h.1, h.2.taped T⟩) (fun T => (bits_any alg (u.taped T)).mono fun e w' h => ⟨_, h.1, rfl, by rw [← h.2]; exact (KB.refl u).taped T⟩) fun v w1 h => k v w1 h.2 h.1
   · intro L s u lr h hd k
     simp only [actOf, List.foldl_cons, List.foldl_nil, Go.Act.put, List.setIfInBounds_toArray, List.set_cons_succ, List.set_cons_zero] at k ⊢
     exact KEnv.ops_load (lawEnv_tight W) (v := .agg #[.slice A1 xs1.length c1, .slice A2 xs2.length c2]) rfl rfl rfl (fun T => ((F0.out.next h.kb).taped T).at'.hold.load (T := 29) Star.underlying29 rfl (by kernel_rfl)) (k _ _ (KB.refl u) rfl)
   · intro L s u lr h hd k
     simp only [actOf, List.foldl_cons, List.foldl_nil, Go.Act.put, List.setIfInBounds_toArray, List.set_cons_succ, List.set_cons_zero] at k ⊢
     have e1 : s 22 = .int .i64 (bits19 alg) := h.val 1 (by decide) (hd 1 (by decide))
     have e2 : s 23 = .agg #[.slice A1 xs1.length c1, .slice A2 xs2.length c2] := h.val 2 (by decide) (hd 2 (by decide))
     have F := F0.out.next h.kb
     refine ops_new17 W rfl rfl rfl (bits19 alg) (bits19_ok alg) A1 c1 xs1 A2 c2 xs2 hl1 hl2 (by rw [map2]; show #[s 22, s 23] = _; rw [e1, e2]) F.nm F.ot hof (hf0 _ h.kb) fun v w1 hNew => ?_
     obtain ⟨np, rfl, hnp, hsp, hkb⟩ := hNew
     exact k _ _ hkb ⟨np, rfl, Nat.le_trans F.size hnp, hsp⟩
   · intro L s u lr h hd k
     simp only [actOf, List.foldl_cons, List.foldl_nil, Go.Act.put, List.setIfInBounds_toArray, List.set_cons_succ, List.set_cons_zero] at k ⊢
     obtain ⟨np, e, hB, hs⟩ : (isPE _ _ _ _ _).says (s 24) u := h.val 3 (by decide) (hd 3 (by decide))
     refine KEnv.ops_value (lawEnv_tight W) (v := .pointer (some ⟨np, 0, none⟩)) rfl rfl (fun T => ?_) (k _ _ (KB.refl u) ⟨np, rfl, hB, hs⟩)
     show (do pure (Next.value (← Instr.extract (s 24) 0)) : Sem Next).run _ _ = _
     rw [e]; rfl
   · intro L s u lr h hd k
     simp only [actOf, List.foldl_cons, List.foldl_nil, Go.Act.put, List.setIfInBounds_toArray, List.set_cons_succ, List.set_cons_zero] at k ⊢
     obtain ⟨np, e, hB, hs⟩ : (isPE _ _ _ _ _).says (s 24) u := h.val 3 (by decide) (hd 3 (by decide))
     refine KEnv.ops_value (lawEnv_tight W) (v := .int .i64 0) rfl rfl (fun T => ?_) (k _ _ (KB.refl u) rfl)
     show (do pure (Next.value (← Instr.extract (s 24) 1)) : Sem Next).run _ _ = _
     rw [e]; rfl
   · intro L s u lr h hd k
     simp only [actOf, List.foldl_cons, List.foldl_nil, Go.Act.put, List.setIfInBounds_toArray, List.set_cons_succ, List.set_cons_zero] at k ⊢
     exact KEnv.ops_value (lawEnv_tight W) (v := s 25) rfl rfl (fun T => rfl) (k _ _ (KB.refl u) (h.val 4 (by decide) (hd 4 (by decide))))
   · intro L s u lr h hd k
     simp only [actOf, List.foldl_cons, List.foldl_nil, Go.Act.put, List.setIfInBounds_toArray, List.set_cons_succ, List.set_cons_zero] at k ⊢
     exact KEnv.ops_value (lawEnv_tight W) (v := s 26) rfl rfl (fun T => rfl) (k _ _ (KB.refl u) (h.val 5 (by decide) (hd 5 (by decide))))
   · intro s u hkb hv
     obtain ⟨np, e4, hB, hs⟩ : (isPtr _ _ _ _ _).says (s 4) u := hv 6 (by decide)
     have e5 : s 5 = .int .i64 0 := hv 7 (by decide)
     refine KEnv.wk_end (lawEnv_tight W) .ret (M := fun a w1 => a.defers = [] ∧ Beg19 w (rateOf (bits19 alg)) (sufOf xs1 xs2) (px17 (rateOf (bits19 alg)) xs1 xs2) (.tuple #[a.tmps.getD 4 undef, a.tmps.getD 5 undef]) w1) (fun a w T h => ⟨h.1, h.2.taped T⟩) (fun a w h => ⟨.inr rfl, h.1, _, results_tmp2 (by rfl) a.tmps Star.prog w, h.2⟩) fun T => ?_
     show Code.wp Star.prog _ _ _ _
     have hB2 : Beg19 w (rateOf (bits19 alg)) (sufOf xs1 xs2) (px17 (rateOf (bits19 alg)) xs1 xs2) (.tuple #[.pointer (some ⟨np, 0, none⟩), .int .i64 0]) (u.taped T) := Beg19.taped ⟨np, rfl, hB, hs, F0.out.kb.trans hkb⟩ T
     generalize u.taped T = u4 at *
     simp only [actOf, List.foldl_cons, List.foldl_nil, Go.Act.put, List.setIfInBounds_toArray, List.set_cons_succ, List.set_cons_zero]
     go_wp2_with fail
     all_goals exact hB2
 · have h23 : kdN (idx alg) = 2 ∨ kdN (idx alg) = 3 := by omega
   refine KEnv.ops_calls (lawEnv_tight W) ho hw hx hvals (fun args w => by show (callFunc 28 args).run Star.prog w = _; kernel_rfl) (R := Beg19 w (bkN (idx alg)) (S19 (kdN (idx alg)) xs1 xs2) (P19 (kdN (idx alg)) (bkN (idx alg)) xs1 xs2)) (fun v w T h => h.taped T) (fun T => ?_) cont
   refine (begun_plain alg h23 A1 _ c1 A2 _ c2 xs1 xs2 (w.taped T) (atab_taped hT T)).mono ?_
   rintro e w1 ⟨np, rfl, h1, h2, h3⟩
   refine ⟨_, rfl, np, rfl, h1, ?_, KB.ofT h3⟩
   rw [show P19 (kdN (idx alg)) (bkN (idx alg)) xs1 xs2 = [] by unfold P19; rw [if_neg h4]]
   exact h2
end
end Go.Proofs.YtenffmfklmialaaGreatDoor.Co
