/- part -/
import Derived.Test.YtenffmfklmialaaGreatDoorBnt
import Derived.Test.YtenffmfklmialaaGreatDoorBnu
import Derived.Conc.SmallLaws
import Derived.Test.YtenffmfklmialaaGreatDoorBng
import Derived.Test.YtenffmfklmialaaGreatDoorBnp
set_option linter.unusedVariables false
set_option linter.unusedSimpArgs false
set_option maxHeartbeats 8000000
namespace Go.Proofs.YtenffmfklmialaaGreatDoor.Co
section
open Go.Conc Spo
open Go.RowKit
open Sg (Sp Turns spC absF absP words_turns)
open L64 (OTab kIt kIt_lt)
set_option maxRecDepth 20000
def wrP : Nat → Nat → (Nat → Nat) → Nat → List Nat → (Nat → Nat) × Nat
 | 0, _, f, p, _ => (f, p)
 | q + 1, R, f, p, xs => if xs.length = 0 then (f, p) else wrP q R (absF R f p (xs.take (min (R - p) xs.length))) (absP R p (xs.take (min (R - p) xs.length))) (xs.drop (min (R - p) xs.length))
theorem absF_lt {R : Nat} {f : Nat → Nat} {p : Nat} {xs : List Nat} (hx : AllLt 256 xs) (i : Nat) : absF R f p xs i < 18446744073709551616 := by
 unfold absF
 split
 · exact kIt_lt (fun i => Ln.xorN_lt hx i) 0 24 i
 · exact Ln.xorN_lt hx i
theorem words_sliced {w : World} {A : Option Addr} {c : Nat} {xs : List Nat} (hw : Words .u8 w A xs) (hlc : xs.length ≤ c) (l h : Nat) (hl : l ≤ h) (hh : h ≤ xs.length) : Words .u8 w (if c = l then A else A.map (·.add (l * 1))) ((xs.drop l).take (h - l)) := by
 intro i hi
 have hi' : i < h - l := by simp at hi; omega
 obtain ⟨b, o, rfl, hc⟩ := hw (l + i) (by omega)
 rw [if_neg (by omega)]
 refine ⟨b, o + l, by simp [addr_add], ?_⟩
 rw [getD_take _ _ _ hi', getD_drop, Nat.add_assoc]
 exact hc
theorem sendsV_nil (q : Nat) (A : Option Addr) (c room rate : Nat) : sendsV q A 0 c room rate = [] := by cases q <;> rfl
theorem map2 (x y : Operand) (ev : Operand → Value) : (#[x, y] : Array Operand).map ev = #[ev x, ev y] := by simp
theorem vs2 {F : Bears} {ρ : Ren} {x y x' y' : Value} (h1 : VRel F ρ x x') (h2 : VRel F ρ y y') : VsRel F ρ #[x, y] #[x', y'] := ⟨rfl, fun i a b ha hb => by
 match i with
 | 0 => simp at ha hb; subst ha hb; exact h1
 | 1 => simp at ha hb; subst ha hb; exact h2
 | i + 2 => simp at ha⟩
theorem hold_taped {W : World} {n k : Nat} {u : Array Value} (h : Rw.Hold W n k u) (T : Tape) : Rw.Hold (W.taped T) n k u := ⟨h.1, h.2⟩
theorem otab_taped {W : World} (h : OTab W) (T : Tape) : OTab (W.taped T) := ⟨h.offs⟩
theorem turns_taped {n k : Nat} {u : Array Value} {w w' : World} {T : Tape} (h : Turns n k u (w.taped T) w') : Turns n k u w (w'.taped w.tape) := ⟨h.os, rfl, h.output, h.size, h.block, hold_taped h.row _⟩
section
variable {F : Bears} {ρ : Ren}
theorem sliced_rel {A A' : Option Addr} {n c : Nat} (h : VRel F ρ (.slice A n c) (.slice A' n c)) (l k s : Nat) (hlc : l ≤ c) (hkc : k ≤ c) : VRel F ρ (sliced A l k c s) (sliced A' l k c s) := by
 unfold sliced
 cases h with
 | nilSlice => split <;> exact .nilSlice
 | slice h => split; exact .slice h; exact .slice (h.add _)
 | emptySlice =>
   obtain rfl : l = 0 := by omega
   obtain rfl : k = 0 := by omega
   exact .emptySlice
end
theorem absorb_calls {np R S p : Nat} {f : Nat → Nat} (hf : ∀ i, f i < 18446744073709551616) (hp : p < 1000) (hR : R < 1000) {A : Option Addr} {c : Nat} {xs : List Nat} (hx : AllLt 256 xs) (hl : xs.length ≤ 900) (hlc : xs.length ≤ c) {w : World} (hw : Words .u8 w A xs) (hs : Sp w np R S f p false) (ht : OTab w) (hof : 4 ≠ np) (T : Tape) :
 Calls Star.prog 79 #[.pointer (some ⟨np, 0, none⟩), .slice A xs.length c] (w.taped T) fun e w1 => ∃ v, e = .returned v ∧ v = .tuple #[] ∧ Turns np 29 (spC R S (absF R f p xs) (absP R p xs) false) w (w1.taped w.tape) := by
 have h := Sg.absorb_any np R S f hf p hp hR false A c xs hx hl hlc (w.taped T) hw (hold_taped hs T) (otab_taped ht T) hof
 refine h.mono fun e w' hq => ?_
 obtain ⟨rfl, h2⟩ := hq
 exact ⟨_, rfl, rfl, turns_taped h2⟩
def bT : Frame := { (default : Frame) with fn := 55, kind := .normal }
theorem bT_kind : bT.kind ≠ .early := by decide
noncomputable def roundT : Code := Code.block 1 (((Code.region 0 (opsT 0) false).seq (Code.region 1 (opsT 1) false)).seq ((Code.region 2 (opsT 2) false).seq (Code.block 2 (Code.cond (Operand.tmp 11) ((Code.region 3 (opsT 3) false).seq (Code.region 4 (opsT 4) false)) (Code.cond (Operand.tmp 12) Code.ret Code.skip)))))
noncomputable def kT : List Item := [.inLoop roundT, .inBlock 0]
noncomputable def kT2 : List Item := [.code (Code.block 2 (Code.cond (Operand.tmp 11) ((Code.region 3 (opsT 3) false).seq (Code.region 4 (opsT 4) false)) (Code.cond (Operand.tmp 12) Code.ret Code.skip))), .inBlock 1, .inLoop roundT, .inBlock 0]
def zS : Value := .slice none 0 0
def zE : Value := .agg #[]
theorem sel_runs {A : Go.Act} {c e : Nat} (h7 : A.eval (.tmp 7) = .chan (some c)) (h8 : A.eval (.tmp 8) = .chan (some e)) (o : Oper) (ho : o.op = .select #[{ chan := .tmp 7, send := none, elem := 22 }, { chan := .tmp 8, send := none, elem := 127 }] true) (w : World) :
 (execOp A.eval o).runT Tryz.prog w #[] = (.ok (.comm (selCs c e zS zE) true .select) w, #[]) := by
 obtain ⟨dst, op, t, pos, after, guard⟩ := o
 dsimp only at ho
 subst ho
 have e1 : ∀ ev : Operand → Value, (execOp ev ⟨dst, .select #[{ chan := .tmp 7, send := none, elem := 22 }, { chan := .tmp 8, send := none, elem := 127 }] true, t, pos, after, guard⟩).runT Tryz.prog w #[] = (.ok (.comm #[{ chan := ev (.tmp 7), send := none, zero := zS }, { chan := ev (.tmp 8), send := none, zero := zE }] true .select) w, #[]) := by
  intro ev
  kernel_rfl
 rw [e1, h7, h8]
 rfl
section
variable {F : Bears} {Gl ROp ROr : Nat → Prop} {K : Nat → Option Obj} {c e : Nat}
theorem to_sel {Stop : (Nat → Prop) → Goroutine → World → Prop} {own : Nat → Prop} {cs : List Frame} {w : World} {f : Nat → Value} (h1 : f 1 = .chan (some c)) (h2 : f 2 = .chan (some e))
 (h : Act Tryz.prog true ROr Stop own (G (bT.at (av 17 (fu (fu f 7 (.chan (some c))) 8 (.chan (some e)))) (.inRegion (opsT 2) [0, 1, 2, 3] :: kT2)) cs) w) : Act Tryz.prog true ROr Stop own (G (bT.at (av 17 f) (.code roundT :: kT)) cs) w := by
 refine ax_block (ax_seq (ax_seq (ax_regn (l := [0]) (by rw [szT0]; rfl) ?_)))
 refine ax_p T_0_0 (pure_move (ea (by decide) h1)) bT_kind (ax_end ?_)
 refine ax_regn (l := [0]) (by rw [szT1]; rfl) ?_
 refine ax_p T_1_0 (pure_move (ea (by decide) h2)) bT_kind (ax_end ?_)
 exact ax_seq (ax_regn (l := [0, 1, 2, 3]) (by rw [szT2]; rfl) h)
theorem behind_sel {Stop : (Nat → Prop) → Goroutine → World → Prop} {own : Nat → Prop} {cs : List Frame} {w : World} {f : Nat → Value} {j : Int} {x : Bool} {v : Value} {z : Value}
 (h : Act Tryz.prog true ROr Stop own (G (bT.at (av 17 (fu (fu (fu (fu f 9 (.tuple #[.int .i64 j, .bool x, v, z])) 10 (.int .i64 j)) 11 (.bool (j == 0))) 12 (.bool (j == 1)))) kT2) cs) w) : Act Tryz.prog true ROr Stop own (G (bT.at (av 17 (fu f 9 (.tuple #[.int .i64 j, .bool x, v, z]))) (.inRegion (opsT 2) [1, 2, 3] :: kT2)) cs) w := by
 refine ax_p T_2_1 (pure_extract (ea (by decide) rfl) rfl) bT_kind ?_
 refine ax_p T_2_2 (pure_eql (ea (by decide) rfl)) bT_kind ?_
 refine ax_p T_2_3 (pure_eql (ea (by decide) rfl)) bT_kind ?_
 exact ax_end h
theorem take_end {Ret : (Nat → Prop) → Goroutine → World → Prop} {own : Nat → Prop} {wfr : Frame} {rs : List Frame} {w : World} {f : Nat → Value} (h1 : f 1 = .chan (some c)) (h2 : f 2 = .chan (some e)) (h : ∀ w1, Rely own ROr w w1 → Act Tryz.prog true ROr Ret own (G (wfr.finish (.tuple #[])) rs) w1) :
 ConsB Tryz.prog c e zS zE ROr (Act Tryz.prog true ROr Ret) [] own (G (bT.at (av 17 f) (.code roundT :: kT)) (wfr :: rs)) w := by
 refine to_sel h1 h2 (.stop fun w1 hw1 => ⟨rfl, ?_⟩)
 obtain ⟨s1, s2⟩ := comm_step (P := Tryz.prog) (cs := wfr :: rs) (b := bT) (n := 17) (f := fu (fu f 7 (.chan (some c))) 8 (.chan (some e))) (k := kT2) (rest := [1, 2, 3]) T_2_0 (fun c h => by cases h) (sel_runs (c := c) (e := e) (ea (by decide) rfl) (ea (by decide) rfl)) true w1
 refine ⟨_, #[], s1, ⟨rfl, rfl, rfl⟩, fun x hx => absurd hx (by simp), ?_⟩
 rw [s2, fin_av T_2_0]
 refine behind_sel (j := 1) (x := false) (v := zS) (z := zE) ?_
 refine ax_block (ax_cond (t := false) (ea (by decide) rfl) (ax_cond (t := true) (ea (by decide) rfl) ?_))
 exact ax_ret0 rfl fnT resT (h w1 hw1)
theorem take_loop (hX : ∀ o p, F.spec o p → StuckOp Star.prog o) (hF : F 79) {ρ0 : Ren} (hro : ∀ a b, ρ0 a = some b → ROp a → ROr b) (hrd : ∀ a, ROp a → ∃ b, ρ0 a = some b) {R S np np' : Nat} (hR : R < 900) (hnp : ρ0 np = some np') (hof : 4 ≠ np) {Ret : (Nat → Prop) → Goroutine → World → Prop} {wfr : Frame} {rs : List Frame} {w0 : World} :
 ∀ (q : Nat) (ρ1 : Ren) (w1 w1' : World) (A A' : Option Addr) (cp : Nat) (xs : List Nat) (f : Nat → Nat) (p : Nat) (ft : Nat → Value), Joined Star.prog Tryz.prog F Gl ROp ρ1 w1 w1' → Kept K ρ1 w1 → ρ0.le ρ1 → xs.length ≤ q → xs.length ≤ cp → AllLt 256 xs → Words .u8 w1 A xs → (∀ a, A = some a → a.block ≠ np) →
  VRel F ρ1 (.slice A xs.length cp) (.slice A' xs.length cp) → Turns np 29 (spC R S f p false) w0 w1 → (∀ i, f i < 18446744073709551616) → p < R → OTab w1 → ft 0 = .pointer (some ⟨np', 0, none⟩) → ft 1 = .chan (some c) → ft 2 = .chan (some e) →
  (∀ ρ2 w2 w2', Joined Star.prog Tryz.prog F Gl ROp ρ2 w2 w2' → Kept K ρ2 w2 → ρ0.le ρ2 → Turns np 29 (spC R S (wrP q R f p xs).1 (wrP q R f p xs).2 false) w0 w2 → OTab w2 → Act Tryz.prog true ROr Ret (ownOf ROp ρ2) (G (wfr.finish (.tuple #[])) rs) w2') →
  ConsB Tryz.prog c e zS zE ROr (Act Tryz.prog true ROr Ret) (sendsV q A' xs.length cp (R - p) R) (ownOf ROp ρ1) (G (bT.at (av 17 ft) (.code roundT :: kT)) (wfr :: rs)) w1' := by
 have hro1 : ∀ ρ1 : Ren, ρ0.le ρ1 → ∀ a b, ρ1 a = some b → ROp a → ROr b := fun ρ1 hle a b hab hr => by
  obtain ⟨c1, hc⟩ := hrd a hr
  have := hle a c1 hc
  rw [hab] at this
  cases this
  exact hro a b hc hr
 have hrd1 : ∀ ρ1 : Ren, ρ0.le ρ1 → ∀ a, ROp a → ∃ b, ρ1 a = some b := fun ρ1 hle a hr => by
  obtain ⟨c1, hc⟩ := hrd a hr
  exact ⟨c1, hle a c1 hc⟩
 intro q
 induction q with
 | zero =>
   intro ρ1 w1 w1' A A' cp xs f p ft J hK hle hn hc hx hw ha hv hT hf hp hO g0 g1 g2 hd
   refine take_end g1 g2 fun w2 hw2 => hd ρ1 w1 w2 (J.rely (hro1 ρ1 hle) hw2) hK hle hT hO
 | succ q ih =>
   intro ρ1 w1 w1' A A' cp xs f p ft J hK hle hn hc hx hw ha hv hT hf hp hO g0 g1 g2 hd
   by_cases hz : xs.length = 0
   · have e0 : sendsV (q + 1) A' xs.length cp (R - p) R = [] := by simp only [sendsV, hz, if_true]
     have e1 : wrP (q + 1) R f p xs = (f, p) := by simp only [wrP, hz, if_true]
     rw [e0]
     rw [e1] at hd
     exact take_end g1 g2 fun w2 hw2 => hd ρ1 w1 w2 (J.rely (hro1 ρ1 hle) hw2) hK hle hT hO
   · have e1 : wrP (q + 1) R f p xs = wrP q R (absF R f p (xs.take (min (R - p) xs.length))) (absP R p (xs.take (min (R - p) xs.length))) (xs.drop (min (R - p) xs.length)) := by simp only [wrP, hz, if_false]
     have e0 : sendsV (q + 1) A' xs.length cp (R - p) R = sliced A' 0 (min (R - p) xs.length) cp 1 :: sendsV q (if cp = min (R - p) xs.length then A' else A'.map (·.add (min (R - p) xs.length * 1))) (xs.length - min (R - p) xs.length) (cp - min (R - p) xs.length) R R := by
      simp only [sendsV, hz, if_false]
     rw [e0]
     rw [e1] at hd
     generalize hm : min (R - p) xs.length = m at *
     have hm1 : m ≤ xs.length := by omega
     have hm0 : 0 < m := by omega
     have hm2 : p + m ≤ R := by omega
     have hm3 : p + m = R ∨ m = xs.length := by omega
     have hlen : (xs.take m).length = m := by simp; omega
     refine to_sel g1 g2 (.stop fun w2 hw2 => ⟨rfl, ?_⟩)
     obtain ⟨s1, s2⟩ := comm_step (P := Tryz.prog) (cs := wfr :: rs) (b := bT) (n := 17) (f := fu (fu ft 7 (.chan (some c))) 8 (.chan (some e))) (k := kT2) (rest := [1, 2, 3]) T_2_0 (fun c h => by cases h) (sel_runs (c := c) (e := e) (ea (by decide) rfl) (ea (by decide) rfl)) true w2
     refine ⟨_, #[], s1, ⟨rfl, rfl, rfl⟩, fun x hx => absurd hx (by simp), ?_⟩
     rw [s2, fin_av T_2_0]
     have J2 := J.rely (hro1 ρ1 hle) hw2
     have goal : ∀ {Stop : (Nat → Prop) → Goroutine → World → Prop} (f2 : Nat → Value), f2 0 = .pointer (some ⟨np', 0, none⟩) → f2 1 = .chan (some c) → f2 2 = .chan (some e) →
      (∀ ρ3 w3 w3' (f3 : Nat → Value), f3 0 = .pointer (some ⟨np', 0, none⟩) → f3 1 = .chan (some c) → f3 2 = .chan (some e) → ρ1.le ρ3 → Joined Star.prog Tryz.prog F Gl ROp ρ3 w3 w3' → Kept K ρ3 w3 → Turns np 29 (spC R S (absF R f p (xs.take m)) (absP R p (xs.take m)) false) w1 w3 → Act Tryz.prog true ROr Stop (ownOf ROp ρ3) (G (bT.at (av 17 f3) (.code roundT :: kT)) (wfr :: rs)) w3') →
      Act Tryz.prog true ROr Stop (ownOf ROp ρ1) (G (bT.at (av 17 (fu f2 9 (selV (sliced A' 0 m cp 1) zE))) (.inRegion (opsT 2) [1, 2, 3] :: kT2)) (wfr :: rs)) w2 := by
      intro Stop f2 k0 k1 k2 hnext
      refine behind_sel (j := 0) (x := true) (v := sliced A' 0 m cp 1) (z := zE) ?_
      refine ax_block (ax_cond (t := true) (ea (by decide) rfl) ?_)
      refine ax_seq (ax_regn (l := [0, 1]) (by rw [szT3]; rfl) ?_)
      refine ax_p T_3_0 (pure_extract (ea (by decide) rfl) rfl) bT_kind ?_
      refine ax_p T_3_1 (pure_assign (ea (by decide) rfl)) bT_kind ?_
      refine ax_end (ax_regn (l := [0, 1, 2]) (by rw [szT4]; rfl) ?_)
      refine ax_p T_4_0 (pure_move (ea (by decide) k0)) bT_kind ?_
      refine ax_p T_4_1 (pure_move (ea (by decide) rfl)) bT_kind ?_
      refine ax_call T_4_2 Tryz.call79 (by intro args w; kernel_rfl) ?_
      rw [map2, ea (n := 17) (j := 14) (v := .pointer (some ⟨np', 0, none⟩)) (by decide) rfl, ea (n := 17) (j := 15) (v := sliced A' 0 m cp 1) (by decide) rfl]
      have esl : sliced A 0 m cp 1 = .slice (if cp = 0 then A else A.map (·.add (0 * 1))) (xs.take m).length (cp - 0) := by rw [hlen]; rfl
      have hwt : Words .u8 w1 (if cp = 0 then A else A.map (·.add (0 * 1))) (xs.take m) := by
       have := words_sliced hw hc 0 m (Nat.zero_le _) hm1
       simpa using this
      have hargs : VsRel F ρ1 #[.pointer (some ⟨np, 0, none⟩), sliced A 0 m cp 1] #[.pointer (some ⟨np', 0, none⟩), sliced A' 0 m cp 1] := vs2 (.pointer ⟨hle _ _ hnp, rfl, rfl⟩) (sliced_rel hv 0 m 1 (Nat.zero_le _) (by omega))
      have hlaw : ∀ T, Calls Star.prog 79 #[.pointer (some ⟨np, 0, none⟩), sliced A 0 m cp 1] (w1.taped T) fun e w3 => ∃ v, e = .returned v ∧ v = .tuple #[] ∧ Turns np 29 (spC R S (absF R f p (xs.take m)) (absP R p (xs.take m)) false) w1 (w3.taped w1.tape) := fun T => by
       rw [esl]
       exact absorb_calls hf (by omega) (by omega) (fun x hx' => hx x (List.mem_of_mem_take hx')) (by rw [hlen]; omega) (by rw [hlen]; omega) hwt hT.row hO hof T
      refine call_act (P := Star.prog) (P' := Tryz.prog) (ρ := ρ1) (w := w1) (w' := w2) (f := 79) hX true J2 hK (hro1 ρ1 hle) (hrd1 ρ1 hle) hF hargs (R := fun v w => v = .tuple #[] ∧ Turns np 29 (spC R S (absF R f p (xs.take m)) (absP R p (xs.take m)) false) w1 (w.taped w1.tape)) (fun v w T h => h) hlaw fun ρ3 w3 w3' v v' h1 h2 h3 h4 h5 => ?_
      rw [fin_av T_4_2]
      refine ax_end (ax_inBlock (ax_inBlock (ax_inLoop ?_)))
      exact hnext ρ3 (w3.taped w1.tape) w3' _ k0 k1 k2 h1 (h2.tape _) (fun a o h => h3 a o h) h4.2
     have hlen2 : (xs.drop m).length = xs.length - m := by simp
     have hP : absP R p (xs.take m) < R ∧ sendsV q (if cp = m then A' else A'.map (·.add (m * 1))) (xs.length - m) (cp - m) R R = sendsV q (if cp = m then A' else A'.map (·.add (m * 1))) (xs.drop m).length (cp - m) (R - absP R p (xs.take m)) R := by
      rw [hlen2]
      unfold absP
      rw [hlen]
      by_cases h : p + m = R
      · rw [if_pos h]; exact ⟨by omega, rfl⟩
      · rw [if_neg h]
        refine ⟨by omega, ?_⟩
        rw [show xs.length - m = 0 by omega, sendsV_nil, sendsV_nil]
     rw [hP.2]
     have step : ∀ ρ3 w3 w3' (f3 : Nat → Value), f3 0 = .pointer (some ⟨np', 0, none⟩) → f3 1 = .chan (some c) → f3 2 = .chan (some e) → ρ1.le ρ3 → Joined Star.prog Tryz.prog F Gl ROp ρ3 w3 w3' → Kept K ρ3 w3 → Turns np 29 (spC R S (absF R f p (xs.take m)) (absP R p (xs.take m)) false) w1 w3 →
      ConsB Tryz.prog c e zS zE ROr (Act Tryz.prog true ROr Ret) (sendsV q (if cp = m then A' else A'.map (·.add (m * 1))) (xs.drop m).length (cp - m) (R - absP R p (xs.take m)) R) (ownOf ROp ρ3) (G (bT.at (av 17 f3) (.code roundT :: kT)) (wfr :: rs)) w3' := by
      intro ρ3 w3 w3' f3 k0 k1 k2 hle3 J3 K3 T3
      have hw3 : Words .u8 w3 (if cp = m then A else A.map (·.add (m * 1))) (xs.drop m) := by
       have h1 := words_sliced hw hc m xs.length hm1 (Nat.le_refl _)
       rw [List.take_of_length_le (by rw [hlen2]; omega)] at h1
       refine words_turns T3 h1 fun a ha' => ?_
       split at ha'
       · exact ha a ha'
       · cases A with
         | none => cases ha'
         | some b => cases ha'; have := ha b rfl; simp only [Addr.add]; split <;> exact this
      have ha3 : ∀ a, (if cp = m then A else A.map (·.add (m * 1))) = some a → a.block ≠ np := fun a ha' => by
       split at ha'
       · exact ha a ha'
       · cases A with
         | none => cases ha'
         | some b => cases ha'; have := ha b rfl; simp only [Addr.add]; split <;> exact this
      have hv3 : VRel F ρ3 (.slice (if cp = m then A else A.map (·.add (m * 1))) (xs.drop m).length (cp - m)) (.slice (if cp = m then A' else A'.map (·.add (m * 1))) (xs.drop m).length (cp - m)) := by
       rw [hlen2]
       exact sliced_rel (hv.mono hle3) m xs.length 1 (by omega) (by omega)
      refine ih ρ3 w3 w3' _ _ (cp - m) (xs.drop m) _ _ f3 J3 K3 (Ren.le_trans hle hle3) (by omega) (by omega) (fun x hx' => hx x (List.mem_of_mem_drop hx')) hw3 ha3 hv3 (hT.trans T3) (fun i => absF_lt (fun x hx' => hx x (List.mem_of_mem_take hx')) i) hP.1 (hO.turns T3 hof) k0 k1 k2 hd
     generalize (sendsV q (if cp = m then A' else A'.map (·.add (m * 1))) (xs.drop m).length (cp - m) (R - absP R p (xs.take m)) R) = us at step
     cases us with
     | nil => exact goal _ g0 g1 g2 step
     | cons u us => exact goal _ g0 g1 g2 step
end
end
section
open Go.Conc
section
variable {P : Program} {main : Bool} {RO own : Nat → Prop} {Stop : (Nat → Prop) → Goroutine → World → Prop} {b : Frame} {n : Nat} {f : Nat → Value} {k : List Item} {cs : List Frame} {w : World} {ops : Array Oper} {i : Nat} {rest : List Nat} {d : Nat}
theorem cell_rely {w1 : World} {a : Addr} {v : Value} (h : Rely own RO w w1) (ho : own a.block ∨ RO a.block) (hc : w.cell? a = some v) : w1.cell? a = some v := by
 unfold World.cell? at hc ⊢
 have hlt : a.block < w.heap.size := by
  cases hh : w.heap[a.block]? with
  | none => rw [hh] at hc; cases hc
  | some o => exact (Array.getElem?_eq_some_iff.1 hh).1
 rw [h.keep a.block hlt ho]
 exact hc
theorem ax_ld {t : TypeId} {x : Operand} {a : Addr} {v : Value} (ho : OpIs ops i (some d) (.load t x)) (hx : (av n f).eval x = .pointer (some a)) (hl : ∀ w, (Instr.loadAt t (.pointer (some a))).run P w = (load a .plain).run P w ∧ (Instr.loadAt t (.pointer (some a))).events P w #[] = (load a .plain).events P w #[])
 (hc : w.cell? a = some v) (hown : own a.block ∨ RO a.block) (hk : b.kind ≠ .early) (h : Act P main RO Stop own (G (b.at (av n (fu f d v)) (.inRegion ops rest :: k)) cs) w) : Act P main RO Stop own (G (b.at (av n f) (.inRegion ops (i :: rest) :: k)) cs) w := by
 obtain ⟨o, h1, h2, h3, h4⟩ := ho
 have run : ∀ w1, Rely own RO w w1 → (execOp (av n f).eval o).run P w1 = .ok (.value v) w1 ∧ (execOp (av n f).eval o).events P w1 #[] = #[⟨.cell a, false, false⟩] := fun w1 hw1 => by
  have hc1 := cell_rely hw1 hown hc
  obtain ⟨dst, op, ty, pos, after, guard⟩ := o
  dsimp only at h3
  subst h3
  have e : execOp (av n f).eval ⟨dst, .load t x, ty, pos, after, guard⟩ = (do pure (.value (← Instr.loadAt t ((av n f).eval x)))) := rfl
  rw [e, hx]
  have r1 : (load a .plain).run P w1 = .ok v w1 := by rw [run_load, hc1]
  have r2 : (load a .plain).events P w1 #[] = #[⟨.cell a, false, false⟩] := by rw [events_load, hc1]; rfl
  constructor
  · rw [Sem.run_bind, (hl w1).1, r1]; rfl
  · rw [Sem.events_bind, (hl w1).1, (hl w1).2, r1, r2]; rfl
 refine ax_val h1 (h4 _) hk (fun w1 hw1 => (run w1 hw1).1) (fun w1 hw1 e he => ?_) ?_
 · rw [(run w1 hw1).2] at he
   simp at he
   subst he
   exact hown.imp id fun h => ⟨h, rfl⟩
 · rw [h2, av_put]
   exact h
def chN : Obj := .chan 0 #[] false 0 0 false
theorem ax_mk {t : TypeId} {x : Operand} (ho : OpIs ops i (some d) (.makeChan t x)) (hm : ∀ w, (Instr.makeChan t ((av n f).eval x)).run P w = .ok (.chan (some w.heap.size)) { w with heap := w.heap.push chN } ∧ (Instr.makeChan t ((av n f).eval x)).events P w #[] = #[]) (hk : b.kind ≠ .early)
 (h : ∀ w1, Rely own RO w w1 → Act P main RO Stop (fun b => own b ∨ b = w1.heap.size) (G (b.at (av n (fu f d (.chan (some w1.heap.size)))) (.inRegion ops rest :: k)) cs) { w1 with heap := w1.heap.push chN }) : Act P main RO Stop own (G (b.at (av n f) (.inRegion ops (i :: rest) :: k)) cs) w := by
 obtain ⟨o, h1, h2, h3, h4⟩ := ho
 refine Act.step' rfl fun w1 hw1 => ?_
 have run : (execOp (av n f).eval o).run P w1 = .ok (.value (.chan (some w1.heap.size))) { w1 with heap := w1.heap.push chN } ∧ (execOp (av n f).eval o).events P w1 #[] = #[] := by
  obtain ⟨dst, op, ty, pos, after, guard⟩ := o
  dsimp only at h3
  subst h3
  have e : execOp (av n f).eval ⟨dst, .makeChan t x, ty, pos, after, guard⟩ = (do pure (.value (← Instr.makeChan t ((av n f).eval x)))) := rfl
  rw [e]
  constructor
  · rw [Sem.run_bind, (hm w1).1]; rfl
  · rw [Sem.events_bind, (hm w1).1, (hm w1).2]; rfl
 have hg := stepG_value (P := P) (main := main) (b := b) (cs := cs) (k := k) (rest := rest) h1 (h4 _) hk run.1
 rw [h2, av_put] at hg
 refine ⟨_, _, _, fun b => own b ∨ b = w1.heap.size, hg, ⟨by simp, fun x hx _ => ?_, fun x hx => .inl hx, fun x hx => ?_, fun e he => ?_, rfl, rfl, rfl⟩, h w1 hw1⟩
 · show (w1.heap.push chN)[x]? = _
   rw [Array.getElem?_push, if_neg (by omega)]
 · rcases hx with hx | hx
   · exact .inl hx
   · subst hx
     exact .inr ⟨Nat.le_refl _, by simp⟩
 · have := mem_listed he
   rw [run.2] at this
   simp at this
end
end
section
open Go.Conc Spo
open Go.RowKit
open Sg (Sp Turns spC absF absP words_turns)
open L64 (OTab)
set_option maxRecDepth 20000
def bW : Frame := { (default : Frame) with fn := 29, kind := .normal }
theorem bW_kind : bW.kind ≠ .early := by decide
section
variable {ev : Operand → Value} {x : Operand} {b : Nat}
theorem fld0 (hx : ev x = .pointer (some ⟨b, 0, none⟩)) : PureOp Tryz.prog ev (.fieldAddr 80 x 0) (.pointer (some ⟨b, 0, none⟩)) :=
 pure_of fun ty => ⟨Instr.fieldAt 80 (ev x) 0, fun _ _ _ _ => rfl, fun w => by rw [hx]; exact ⟨by kernel_rfl, by kernel_rfl⟩⟩
theorem fld3 (hx : ev x = .pointer (some ⟨b, 0, none⟩)) : PureOp Tryz.prog ev (.fieldAddr 80 x 3) (.pointer (some ⟨b, 27, none⟩)) :=
 pure_of fun ty => ⟨Instr.fieldAt 80 (ev x) 3, fun _ _ _ _ => rfl, fun w => by rw [hx]; exact ⟨by kernel_rfl, by kernel_rfl⟩⟩
theorem fld4 (hx : ev x = .pointer (some ⟨b, 0, none⟩)) : PureOp Tryz.prog ev (.fieldAddr 80 x 4) (.pointer (some ⟨b, 28, none⟩)) :=
 pure_of fun ty => ⟨Instr.fieldAt 80 (ev x) 4, fun _ _ _ _ => rfl, fun w => by rw [hx]; exact ⟨by kernel_rfl, by kernel_rfl⟩⟩
theorem ld_int (a : Addr) (w : World) : (Instr.loadAt 3 (.pointer (some a))).run Tryz.prog w = (load a .plain).run Tryz.prog w ∧ (Instr.loadAt 3 (.pointer (some a))).events Tryz.prog w #[] = (load a .plain).events Tryz.prog w #[] := ⟨by kernel_rfl, by kernel_rfl⟩
theorem ld_bool (a : Addr) (w : World) : (Instr.loadAt 4 (.pointer (some a))).run Tryz.prog w = (load a .plain).run Tryz.prog w ∧ (Instr.loadAt 4 (.pointer (some a))).events Tryz.prog w #[] = (load a .plain).events Tryz.prog w #[] := ⟨by kernel_rfl, by kernel_rfl⟩
theorem mk_parts (w : World) : (Instr.makeChan 81 (.int .i64 0)).run Tryz.prog w = .ok (.chan (some w.heap.size)) { w with heap := w.heap.push chN } ∧ (Instr.makeChan 81 (.int .i64 0)).events Tryz.prog w #[] = #[] := ⟨by kernel_rfl, by kernel_rfl⟩
theorem mk_end (w : World) : (Instr.makeChan 82 (.int .i64 0)).run Tryz.prog w = .ok (.chan (some w.heap.size)) { w with heap := w.heap.push chN } ∧ (Instr.makeChan 82 (.int .i64 0)).events Tryz.prog w #[] = #[] := ⟨by kernel_rfl, by kernel_rfl⟩
end
section
variable {ROr own : Nat → Prop} {Stop : (Nat → Prop) → Goroutine → World → Prop} {k : List Item} {cs : List Frame}
def J3 (ROr : Nat → Prop) (f0 : Nat → Value) (own : Nat → Prop) (w0 : World) (L : Nat → Bool) (own' : Nat → Prop) (a : Go.Act) (w : World) : Prop :=
 ∃ (f' : Nat → Value) (c e : Nat), a = av 36 f' ∧ (∀ j, j ≠ 6 → j ≠ 7 → j ≠ 12 → j ≠ 13 → f' j = f0 j) ∧ (∀ b, own' b ↔ own b ∨ (L 0 = true ∧ b = c) ∨ (L 1 = true ∧ b = e)) ∧ (L 0 = true → f' 12 = .chan (some c) ∧ w.heap[c]? = some chN ∧ w0.heap.size ≤ c) ∧
  (L 1 = true → f' 13 = .chan (some e) ∧ w.heap[e]? = some chN ∧ w0.heap.size ≤ e) ∧ (L 0 = true → L 1 = true → c ≠ e) ∧ (L 2 = true → L 0 = true ∧ f' 6 = .chan (some c)) ∧ Rely own ROr w0 w
theorem new_chan {w1 : World} : ({ w1 with heap := w1.heap.push chN } : World).heap[w1.heap.size]? = some chN := by simp
theorem old_chan {w1 : World} {c : Nat} {o : Obj} (h : w1.heap[c]? = some o) : ({ w1 with heap := w1.heap.push chN } : World).heap[c]? = some o := by
 have hlt := (Array.getElem?_eq_some_iff.1 h).1
 show (w1.heap.push chN)[c]? = _
 rw [Array.getElem?_push, if_neg (by omega)]
 exact h
theorem rely_push {own RO : Nat → Prop} {w1 : World} : Rely own RO w1 { w1 with heap := w1.heap.push chN } :=
 ⟨by simp, fun b hb _ => by show (w1.heap.push chN)[b]? = _; rw [Array.getElem?_push, if_neg (by omega)], rfl, rfl, rfl⟩
theorem deps3 : axDeps (opsW 3) [[], [], [0], [0, 1, 2]] 3 = true := by kernel_rfl
theorem mixed : Tryz.prog.follows .mixedOrders = true := by kernel_rfl
theorem two_chans {f0 : Nat → Value} {w0 : World}
 (h : ∀ (f' : Nat → Value) (c e : Nat) (own' : Nat → Prop) (w : World), (∀ j, j ≠ 6 → j ≠ 7 → j ≠ 12 → j ≠ 13 → f' j = f0 j) → f' 6 = .chan (some c) → f' 7 = .chan (some e) → (∀ b, own' b ↔ own b ∨ b = c ∨ b = e) → w.heap[c]? = some chN → w.heap[e]? = some chN → w0.heap.size ≤ c → w0.heap.size ≤ e → c ≠ e → Rely own ROr w0 w →
   Act Tryz.prog true ROr Stop own' (G (bW.at (av 36 f') k) cs) w) : Act Tryz.prog true ROr Stop own (G (bW.at (av 36 f0) (.code (.region 3 (opsW 3) true) :: k)) cs) w0 := by
 refine ax_sink mixed deps3 (J3 ROr f0 own w0) ?_ ?_ ?_ ?_
 · rintro L own' a w w1 ⟨f', c, e, h1, h2, h3, h4, h5, h6, h7, h8⟩ hr
   refine ⟨f', c, e, h1, h2, h3, fun hl => ?_, fun hl => ?_, h6, h7, h8.trans ⟨hr.size, fun b hb ho => hr.keep b hb (ho.imp_left fun x => (h3 b).2 (.inl x)), hr.tape, hr.os, hr.output⟩⟩
   · obtain ⟨k1, k2, k3⟩ := h4 hl
     exact ⟨k1, (hr.keep c (Array.getElem?_eq_some_iff.1 k2).1 (.inl ((h3 c).2 (.inr (.inl ⟨hl, rfl⟩))))).trans k2, k3⟩
   · obtain ⟨k1, k2, k3⟩ := h5 hl
     exact ⟨k1, (hr.keep e (Array.getElem?_eq_some_iff.1 k2).1 (.inl ((h3 e).2 (.inr (.inr ⟨hl, rfl⟩))))).trans k2, k3⟩
 · exact ⟨f0, 0, 0, rfl, fun _ _ _ _ _ => rfl, fun b => by simp, by simp, by simp, by simp, by simp, Rely.refl _ _ _⟩
 · rintro L own' a i o l w1 hi ho ⟨f', c, e, rfl, h2, h3, h4, h5, h6, h7, h8⟩ hli hd next
   match i, hi with
   | 0, _ =>
     refine ax_mk W_3_0 mk_parts bW_kind fun w2 hw2 => next _ _ _ ?_
     have h8' : Rely own ROr w0 w2 := h8.trans ⟨hw2.size, fun b hb ho => hw2.keep b hb (ho.imp_left fun x => (h3 b).2 (.inl x)), hw2.tape, hw2.os, hw2.output⟩
     refine ⟨_, w2.heap.size, e, rfl, fun j j1 j2 j3 j4 => ?_, fun b => ?_, fun hl => ⟨rfl, new_chan, h8'.size⟩, fun hl => ?_, fun hl hl2 => ?_, fun hl => ?_, h8'.trans rely_push⟩
     · simp only [fu, j3, if_false]
       exact h2 j j1 j2 j3 j4
     · show own' b ∨ b = w2.heap.size ↔ _
       rw [h3 b]
       simp only [updL, if_true, hli]
       simp
       constructor
       · rintro ((x | x) | x)
         · exact .inl x
         · exact .inr (.inr x)
         · exact .inr (.inl x)
       · rintro (x | x | x)
         · exact .inl (.inl x)
         · exact .inr x
         · exact .inl (.inr x)
     · obtain ⟨k1, k2, k3⟩ := h5 hl
       exact ⟨k1, old_chan ((hw2.keep e (Array.getElem?_eq_some_iff.1 k2).1 (.inl ((h3 e).2 (.inr (.inr ⟨hl, rfl⟩))))).trans k2), k3⟩
     · obtain ⟨k1, k2, k3⟩ := h5 hl2
       have := (Array.getElem?_eq_some_iff.1 k2).1
       have := hw2.size
       omega
     · have := (h7 hl).1
       rw [hli] at this
       cases this
   | 1, _ =>
     refine ax_mk W_3_1 mk_end bW_kind fun w2 hw2 => next _ _ _ ?_
     have h8' : Rely own ROr w0 w2 := h8.trans ⟨hw2.size, fun b hb ho => hw2.keep b hb (ho.imp_left fun x => (h3 b).2 (.inl x)), hw2.tape, hw2.os, hw2.output⟩
     refine ⟨_, c, w2.heap.size, rfl, fun j j1 j2 j3 j4 => ?_, fun b => ?_, fun hl => ?_, fun hl => ⟨rfl, new_chan, h8'.size⟩, fun hl hl2 => ?_, fun hl => ?_, h8'.trans rely_push⟩
     · simp only [fu, j4, if_false]
       exact h2 j j1 j2 j3 j4
     · show own' b ∨ b = w2.heap.size ↔ _
       rw [h3 b]
       simp only [updL, if_true, hli]
       simp
       constructor
       · rintro ((x | x) | x)
         · exact .inl x
         · exact .inr (.inl x)
         · exact .inr (.inr x)
       · rintro (x | x | x)
         · exact .inl (.inl x)
         · exact .inl (.inr x)
         · exact .inr x
     · obtain ⟨k1, k2, k3⟩ := h4 hl
       exact ⟨k1, old_chan ((hw2.keep c (Array.getElem?_eq_some_iff.1 k2).1 (.inl ((h3 c).2 (.inr (.inl ⟨hl, rfl⟩))))).trans k2), k3⟩
     · obtain ⟨k1, k2, k3⟩ := h4 hl
       have := (Array.getElem?_eq_some_iff.1 k2).1
       have := hw2.size
       omega
     · exact h7 hl
   | 2, _ =>
     have hl0 : L 0 = true := hd 0 (by simp)
     obtain ⟨k1, k2, k3⟩ := h4 hl0
     refine ax_p W_3_2 (pure_assign (ea (by decide) k1)) bW_kind (next _ _ _ ?_)
     refine ⟨_, c, e, rfl, fun j j1 j2 j3 j4 => ?_, h3, h4, h5, h6, fun hl => ⟨hl0, rfl⟩, h8⟩
     simp only [fu, j1, if_false]
     exact h2 j j1 j2 j3 j4
 · rintro own' a w1 ⟨f', c, e, rfl, h2, h3, h4, h5, h6, h7, h8⟩
   obtain ⟨k1, k2, k3⟩ := h4 rfl
   obtain ⟨l1, l2, l3⟩ := h5 rfl
   refine ax_p W_3_3 (pure_assign (ea (by decide) l1)) bW_kind (ax_end ?_)
   refine h _ c e own' w1 (fun j j1 j2 j3 j4 => ?_) (h7 rfl).2 rfl (fun b => ?_) k2 l2 k3 l3 (h6 rfl rfl) h8
   · simp only [fu, j2, if_false]
     exact h2 j j1 j2 j3 j4
   · rw [h3 b]
     simp
def val4 (np' : Nat) (sl : Value) (R p c e : Nat) : Nat → Value
 | 0 => sl
 | 1 => .pointer (some ⟨np', 0, none⟩)
 | 2 => .pointer (some ⟨np', 0, none⟩)
 | 3 => .pointer (some ⟨np', 0, none⟩)
 | 4 => .int .i64 (R : Nat)
 | 5 => .pointer (some ⟨np', 0, none⟩)
 | 6 => .pointer (some ⟨np', 0, none⟩)
 | 7 => .pointer (some ⟨np', 27, none⟩)
 | 8 => .int .i64 (p : Nat)
 | 9 => .int .i64 ((R - p : Nat) : Nat)
 | 10 => .pointer (some ⟨np', 0, none⟩)
 | 11 => .pointer (some ⟨np', 0, none⟩)
 | 12 => .pointer (some ⟨np', 0, none⟩)
 | 13 => .int .i64 (R : Nat)
 | 14 => .chan (some c)
 | _ => .chan (some e)
def J4 (ROr : Nat → Prop) (val : Nat → Value) (f3 : Nat → Value) (own3 : Nat → Prop) (w3 : World) (L : Nat → Bool) (own' : Nat → Prop) (a : Go.Act) (w : World) : Prop :=
 ∃ (f' : Nat → Value), a = av 36 f' ∧ (∀ i, i < 16 → L i = true → f' (14 + i) = val i) ∧ (∀ j, j < 14 → f' j = f3 j) ∧ own' = own3 ∧ Rely own3 ROr w3 w
theorem deps4 : axDeps (opsW 4) [[], [], [1], [2], [3], [], [5], [6], [7], [4, 8], [], [10], [11], [12], [], [], [0, 9, 13, 14, 15]] 16 = true := by kernel_rfl
theorem J4.next {val f3 : Nat → Value} {own3 own' : Nat → Prop} {w3 w : World} {L : Nat → Bool} {f' : Nat → Value} {i : Nat} {d : Nat} (hdi : d = 14 + i) (hi : i < 16) (h : J4 ROr val f3 own3 w3 L own' (av 36 f') w) (hf : ∀ i, i < 16 → L i = true → f' (14 + i) = val i) (hf3 : ∀ j, j < 14 → f' j = f3 j) : J4 ROr val f3 own3 w3 (updL L i) own' (av 36 (fu f' d (val i))) w := by
 obtain ⟨f2, h1, h2, h3, h4, h5⟩ := h
 subst hdi
 refine ⟨_, rfl, fun j hj hl => ?_, fun j hj => ?_, h4, h5⟩
 · unfold fu
   by_cases e : j = i
   · subst e; simp
   · rw [if_neg (by omega)]
     refine hf j hj ?_
     simpa [updL, e] using hl
 · unfold fu
   rw [if_neg (by omega)]
   exact hf3 j hj
theorem go_operands {f3 : Nat → Value} {w3 : World} {np' R p c e : Nat} {sl : Value} (g0 : f3 0 = .pointer (some ⟨np', 0, none⟩)) (g1 : f3 1 = sl) (g6 : f3 6 = .chan (some c)) (g7 : f3 7 = .chan (some e)) (hp : p ≤ R) (hR : R < 900) (hown : own np') (c0 : w3.cell? ⟨np', 0, none⟩ = some (.int .i64 (R : Nat))) (c27 : w3.cell? ⟨np', 27, none⟩ = some (.int .i64 (p : Nat)))
 (h : ∀ (f' : Nat → Value) (w : World), (∀ i, i < 16 → f' (14 + i) = val4 np' sl R p c e i) → (∀ j, j < 14 → f' j = f3 j) → Rely own ROr w3 w → Act Tryz.prog true ROr Stop own (G (bW.at (av 36 f') (.inRegion (opsW 4) [16] :: k)) cs) w) :
 Act Tryz.prog true ROr Stop own (G (bW.at (av 36 f3) (.code (.region 4 (opsW 4) true) :: k)) cs) w3 := by
 refine ax_sink mixed deps4 (J4 ROr (val4 np' sl R p c e) f3 own w3) ?_ ?_ ?_ ?_
 · rintro L own' a w w1 ⟨f', h1, h2, h3, rfl, h5⟩ hr
   exact ⟨f', h1, h2, h3, rfl, h5.trans hr⟩
 · exact ⟨f3, rfl, fun _ _ h => by simp at h, fun _ _ => rfl, rfl, Rely.refl _ _ _⟩
 · rintro L own' a i o l w1 hi ho hJ hli hd next
   have hJ0 := hJ
   obtain ⟨f', rfl, h2, h3, rfl, h5⟩ := hJ
   have nx : ∀ d, d = 14 + i → Act Tryz.prog true ROr Stop own' (G (bW.at (av 36 (fu f' d (val4 np' sl R p c e i))) (.inRegion (opsW 4) l :: k)) cs) w1 := fun d hdi => next _ _ _ (J4.next hdi hi hJ0 h2 h3)
   have q0 := (h3 0 (by omega)).trans g0
   have q1 := (h3 1 (by omega)).trans g1
   have q6 := (h3 6 (by omega)).trans g6
   have q7 := (h3 7 (by omega)).trans g7
   have hc0 := cell_rely h5 (.inl hown) c0
   have hc27 := cell_rely h5 (.inl hown) c27
   have pre : ∀ j, j ∈ ([[], [], [1], [2], [3], [], [5], [6], [7], [4, 8], [], [10], [11], [12], [], [], [0, 9, 13, 14, 15]] : List (List Nat)).getD i [] → j < 16 → f' (14 + j) = val4 np' sl R p c e j := fun j hj hlt => h2 j hlt (hd j hj)
   match i, hi with
   | 0, _ => exact ax_p W_4_0 (pure_move (ea (by decide) q1)) bW_kind (nx 14 rfl)
   | 1, _ => exact ax_p W_4_1 (pure_move (ea (by decide) q0)) bW_kind (nx 15 rfl)
   | 2, _ => exact ax_p W_4_2 (pure_nilCheck (ea (by decide) (pre 1 (by simp) (by omega)))) bW_kind (nx 16 rfl)
   | 3, _ => exact ax_p W_4_3 (fld0 (ea (by decide) (pre 2 (by simp) (by omega)))) bW_kind (nx 17 rfl)
   | 4, _ => exact ax_ld W_4_4 (ea (by decide) (pre 3 (by simp) (by omega))) (ld_int _) hc0 (.inl hown) bW_kind (nx 18 rfl)
   | 5, _ => exact ax_p W_4_5 (pure_move (ea (by decide) q0)) bW_kind (nx 19 rfl)
   | 6, _ => exact ax_p W_4_6 (pure_nilCheck (ea (by decide) (pre 5 (by simp) (by omega)))) bW_kind (nx 20 rfl)
   | 7, _ => exact ax_p W_4_7 (fld3 (ea (by decide) (pre 6 (by simp) (by omega)))) bW_kind (nx 21 rfl)
   | 8, _ => exact ax_ld W_4_8 (ea (by decide) (pre 7 (by simp) (by omega))) (ld_int _) hc27 (.inl hown) bW_kind (nx 22 rfl)
   | 9, _ =>
     refine ax_p W_4_9 (pure_sub (ea (by decide) (pre 4 (by simp) (by omega))) (ea (by decide) (pre 8 (by simp) (by omega)))) bW_kind ?_
     have e : IntKind.i64.wrap (((R : Nat) : Int) - ((p : Nat) : Int)) = ((R - p : Nat) : Int) := by rw [IntKind.wrap_i64]; omega
     rw [e]
     exact nx 23 rfl
   | 10, _ => exact ax_p W_4_10 (pure_move (ea (by decide) q0)) bW_kind (nx 24 rfl)
   | 11, _ => exact ax_p W_4_11 (pure_nilCheck (ea (by decide) (pre 10 (by simp) (by omega)))) bW_kind (nx 25 rfl)
   | 12, _ => exact ax_p W_4_12 (fld0 (ea (by decide) (pre 11 (by simp) (by omega)))) bW_kind (nx 26 rfl)
   | 13, _ => exact ax_ld W_4_13 (ea (by decide) (pre 12 (by simp) (by omega))) (ld_int _) hc0 (.inl hown) bW_kind (nx 27 rfl)
   | 14, _ => exact ax_p W_4_14 (pure_move (ea (by decide) q6)) bW_kind (nx 28 rfl)
   | 15, _ => exact ax_p W_4_15 (pure_move (ea (by decide) q7)) bW_kind (nx 29 rfl)
   | i + 16, hi => omega
 · rintro own' a w1 ⟨f', rfl, h2, h3, rfl, h5⟩
   exact h f' w1 (fun i hi => h2 i hi (by simp [hi])) h3 h5
end
end
section
open Go.Conc Spo
open Go.RowKit
open Sg (Sp Turns spC absF absP words_turns)
open L64 (OTab)
set_option maxRecDepth 20000
def WPost (w : World) (np R S : Nat) (f : Nat → Nat) (p : Nat) (rd : Bool) (xs : List Nat) (v : Value) (w1 : World) : Prop :=
 (rd = true ∧ v = .tuple #[.int .i64 0, .int .i64 5] ∧ Turns np 29 (spC R S f p true) w w1) ∨
 (rd = false ∧ v = .tuple #[.int .i64 (xs.length : Nat), .int .i64 0] ∧ Turns np 29 (spC R S (wrP xs.length R f p xs).1 (wrP xs.length R f p xs).2 false) w w1)
section
variable {F : Bears} {Gl ROp ROr Old : Nat → Prop} {K : Nat → Option Obj} {w0 : World}
theorem cell_joined {ρ : Ren} {w w' : World} (J : Joined Star.prog Tryz.prog F Gl ROp ρ w w') {n n' i : Nat} (hn : ρ n = some n') {v : Value} (hc : w.cell? ⟨n, i, none⟩ = some v) : ∃ v', w'.cell? ⟨n', i, none⟩ = some v' ∧ VRel F ρ v v' := by
 obtain ⟨v', c, c', t, fr, fr', h1, h2, h3, h4, h5, h6, h7, h8⟩ := J.rel.cell (a := ⟨n, i, none⟩) (a' := ⟨n', i, none⟩) ⟨hn, rfl, rfl⟩ hc
 refine ⟨v', ?_, h8⟩
 unfold World.cell?
 rw [h2]
 simpa using h7
theorem enter_w {vals : Array Value} (h : vals.size = 2) : Frame.enter Tryz.prog 29 vals .normal = bW.at (av 36 fun i => vals.getD i undef) [.code ((Code.region 0 (opsW 0) false).seq (((Code.region 1 (opsW 1) false).seq (Code.cond (Operand.tmp 11) ((Code.region 2 (opsW 2) false).seq Code.ret) Code.skip)).seq ((Code.region 3 (opsW 3) true).seq ((Code.region 4 (opsW 4) true).seq ((Code.region 5 (opsW 5) false).seq ((Code.region 6 (opsW 6) false).seq Code.ret))))))] := by
 rw [← av_enter (by omega)]
 unfold Frame.enter
 rw [fnW]
 dsimp only
 simp only [Option.bind_some, Option.map_some, bodyW, ntW, Option.getD_some]
 rfl
theorem enter_t {vals : Array Value} (h : vals.size = 3) : Frame.enter Tryz.prog 55 vals .normal = bT.at (av 17 fun i => vals.getD i undef) [.code (.block 0 (.loop roundT))] := by
 rw [← av_enter (by omega)]
 unfold Frame.enter
 rw [fnT]
 dsimp only
 simp only [Option.bind_some, Option.map_some, bodyT, ntT, Option.getD_some]
 rfl
theorem map3 (x y z : Operand) (ev : Operand → Value) : (#[x, y, z] : Array Operand).map ev = #[ev x, ev y, ev z] := by simp
theorem map5 (x y z u v : Operand) (ev : Operand → Value) : (#[x, y, z, u, v] : Array Operand).map ev = #[ev x, ev y, ev z, ev u, ev v] := by simp
theorem write_tail {Stop : (Nat → Prop) → Goroutine → World → Prop} {own : Nat → Prop} {f : Nat → Value} {a : Option Addr} {n c : Nat} {fr : Frame} {rs : List Frame} {w : World} (h1 : f 1 = .slice a n c)
 (h : Act Tryz.prog true ROr Stop own (G (fr.finish (.tuple #[.int .i64 (n : Nat), .int .i64 0])) rs) w) : Act Tryz.prog true ROr Stop own (G ((bW.at (av 36 f) (.inRegion (opsW 5) [3] :: .code ((Code.region 6 (opsW 6) false).seq Code.ret) :: [])).finish (.tuple #[])) (fr :: rs)) w := by
 rw [fin_av W_5_3]
 refine ax_end (ax_seq (ax_regn (l := [0, 1, 2, 3]) (by rw [szW6]; rfl) ?_))
 refine ax_p W_6_0 (pure_move (ea (by decide) h1)) bW_kind ?_
 refine ax_p W_6_1 (pure_len u8s_under (ea (by decide) rfl)) bW_kind ?_
 refine ax_p W_6_2 (pure_assign (ea (by decide) rfl)) bW_kind ?_
 refine ax_p W_6_3 (pure_assign rfl) bW_kind (ax_end ?_)
 exact ax_ret2 (i := 4) (j := 5) (by decide) (by decide) rfl fnW resW h
theorem write_head {Stop : (Nat → Prop) → Goroutine → World → Prop} {own : Nat → Prop} {np' : Nat} {sl : Value} {rd : Bool} {fr : Frame} {rs : List Frame} {w : World} (hown : own np') (hc : w.cell? ⟨np', 28, none⟩ = some (.bool rd))
 (h : ∀ f' : Nat → Value, f' 0 = .pointer (some ⟨np', 0, none⟩) → f' 1 = sl → f' 4 = .int .i64 0 → f' 5 = .int .i64 0 → Act Tryz.prog true ROr Stop own (G (bW.at (av 36 f') (.code (if rd then ((Code.region 2 (opsW 2) false).seq Code.ret) else Code.skip) :: .code ((Code.region 3 (opsW 3) true).seq ((Code.region 4 (opsW 4) true).seq ((Code.region 5 (opsW 5) false).seq ((Code.region 6 (opsW 6) false).seq Code.ret)))) :: [])) (fr :: rs)) w) :
 Act Tryz.prog true ROr Stop own (G (Frame.enter Tryz.prog 29 #[.pointer (some ⟨np', 0, none⟩), sl] .normal) (fr :: rs)) w := by
 rw [enter_w rfl]
 refine ax_seq (ax_regn (l := [0, 1]) (by rw [szW0]; rfl) ?_)
 refine ax_p W_0_0 (pure_assign rfl) bW_kind ?_
 refine ax_p W_0_1 (pure_assign rfl) bW_kind (ax_end ?_)
 refine ax_seq (ax_seq (ax_regn (l := [0, 1, 2, 3]) (by rw [szW1]; rfl) ?_))
 refine ax_p W_1_0 (pure_move (v := .pointer (some ⟨np', 0, none⟩)) (ea (by decide) rfl)) bW_kind ?_
 refine ax_p W_1_1 (pure_nilCheck (a := ⟨np', 0, none⟩) (ea (by decide) rfl)) bW_kind ?_
 refine ax_p W_1_2 (fld4 (b := np') (ea (by decide) rfl)) bW_kind ?_
 refine ax_ld W_1_3 (a := ⟨np', 28, none⟩) (ea (by decide) rfl) (ld_bool _) hc (.inl hown) bW_kind (ax_end ?_)
 refine ax_cond (t := rd) (ea (by decide) rfl) (h _ rfl rfl rfl rfl)
theorem write_act (hX : ∀ o p, F.spec o p → StuckOp Star.prog o) (hF : F 79) {w : World} {np R S : Nat} {f : Nat → Nat} {p : Nat} {rd : Bool} {A : Option Addr} {cp : Nat} {xs : List Nat} (hs : Sp w np R S f p rd) (hO : OTab w) (hw : Words .u8 w A xs) (hx : AllLt 256 xs) (hlc : xs.length ≤ cp) (ha : ∀ a, A = some a → a.block ≠ np)
 (hf : ∀ i, f i < 18446744073709551616) (hp : rd = false → p < R) (hR : R < 900) (hnr : ¬ ROp np) (hof : 4 ≠ np) (ρ : Ren) (fr : Frame) (rs : List Frame) (w' : World) (vals' : Array Value) (J : Joined Star.prog Tryz.prog F Gl ROp ρ w w') (hK : Kept K ρ w) (hro : ∀ a b, ρ a = some b → ROp a → ROr b) (hrd : ∀ a, ROp a → ∃ b, ρ a = some b)
 (hvals : VsRel F ρ #[.pointer (some ⟨np, 0, none⟩), .slice A xs.length cp] vals') :
 Act Tryz.prog true ROr (AtGoS Tryz.prog ROr (Act Tryz.prog true ROr (KEnv.Back ⟨Star.prog, Tryz.prog, F, Gl, ROp, ROr, Old, K, w0⟩ ρ fr rs (WPost w np R S f p rd xs)))) (ownOf ROp ρ) (G (Frame.enter Tryz.prog 29 vals' .normal) (fr :: rs)) w' ∨
 Act Tryz.prog true ROr (KEnv.Back ⟨Star.prog, Tryz.prog, F, Gl, ROp, ROr, Old, K, w0⟩ ρ fr rs (WPost w np R S f p rd xs)) (ownOf ROp ρ) (G (Frame.enter Tryz.prog 29 vals' .normal) (fr :: rs)) w' := by
 obtain ⟨v1, e1, r1⟩ := hvals.get (i := 0) rfl
 obtain ⟨v2, e2, r2⟩ := hvals.get (i := 1) rfl
 have hsz : vals'.size = 2 := hvals.1.symm
 have hvals' : vals' = #[v1, v2] := by
  apply Array.ext_getElem?
  intro i
  match i with
  | 0 => simpa using e1
  | 1 => simpa using e2
  | i + 2 => rw [Array.getElem?_eq_none (by omega)]; rfl
 subst hvals'
 obtain ⟨np', rfl, hnp⟩ : ∃ np', v1 = .pointer (some ⟨np', 0, none⟩) ∧ ρ np = some np' := by
  cases r1 with
  | @pointer a a' h =>
    obtain ⟨b, o, s⟩ := a'
    obtain ⟨h1, h2, h3⟩ := h
    dsimp only at h1 h2 h3
    subst h2 h3
    exact ⟨b, rfl, h1⟩
 obtain ⟨A', rfl⟩ : ∃ A', v2 = .slice A' xs.length cp := by generalize xs.length = n at r2 ⊢; cases r2 <;> exact ⟨_, rfl⟩
 have hown : ownOf ROp ρ np' := ⟨np, hnp, hnr⟩
 have c28 : w'.cell? ⟨np', 28, none⟩ = some (.bool rd) := by
  obtain ⟨v', h1, h2⟩ := cell_joined J hnp (hs.cell (Sg.spC_28 _ _ _ _ _))
  cases h2; exact h1
 have c0 : w'.cell? ⟨np', 0, none⟩ = some (.int .i64 (R : Nat)) := by
  obtain ⟨v', h1, h2⟩ := cell_joined J hnp (hs.cell (Sg.spC_0 _ _ _ _ _))
  cases h2; exact h1
 have c27 : w'.cell? ⟨np', 27, none⟩ = some (.int .i64 (p : Nat)) := by
  obtain ⟨v', h1, h2⟩ := cell_joined J hnp (hs.cell (Sg.spC_27 _ _ _ _ _))
  cases h2; exact h1
 cases rd with
 | true =>
   refine .inr (write_head hown c28 fun f' g0 g1 g4 g5 => ?_)
   refine ax_seq (ax_regn (l := [0, 1]) (by rw [szW2]; rfl) ?_)
   refine ax_p W_2_0 (pure_assign rfl) bW_kind ?_
   refine ax_p W_2_1 (pure_assign rfl) bW_kind (ax_end ?_)
   refine ax_ret2 (i := 4) (j := 5) (by decide) (by decide) rfl fnW resW (.stop fun w1 hw1 => ?_)
   refine ⟨ρ, w, .tuple #[.int .i64 0, .int .i64 5], _, rfl, Ren.le_refl ρ, J.rely hro hw1, VRel.tupleOf (vs2 .int .int), rfl, hK, .inl ⟨rfl, rfl, Turns.refl hs⟩⟩
 | false =>
   have hp := hp rfl
   refine .inl (write_head hown c28 fun f0 g0 g1 g4 g5 => ?_)
   refine ax_skip (ax_seq (two_chans fun f3 c e own3 w3 h3 h6 h7 ho hc he hc2 he2 hce hr3 => ?_))
   have ho3 : own3 np' := (ho np').2 (.inl hown)
   have hdom : ∀ b, ownOf ROp ρ b → b < w'.heap.size := fun b hb => by
    obtain ⟨a, ha, _⟩ := hb
    exact (J.rel.dom a b ha).2
   refine ax_seq (go_operands (np' := np') (R := R) (p := p) (c := c) (e := e) (sl := .slice A' xs.length cp) ((h3 0 (by decide) (by decide) (by decide) (by decide)).trans g0) ((h3 1 (by decide) (by decide) (by decide) (by decide)).trans g1) h6 h7 (by omega) hR ho3 (cell_rely hr3 (.inl hown) c0) (cell_rely hr3 (.inl hown) c27) fun f4 w4 hval hf4 hr4 => ?_)
   refine .stop fun w5 hw5 => ?_
   have hr35 : Rely own3 ROr w3 w5 := hr4.trans hw5
   have hr5 : Rely (ownOf ROp ρ) ROr w' w5 := hr3.trans ⟨hr35.size, fun b hb hx => hr35.keep b hb (hx.imp_left fun x => (ho b).2 (.inl x)), hr35.tape, hr35.os, hr35.output⟩
   have J5 := J.rely hro hr5
   have q0 : f4 0 = .pointer (some ⟨np', 0, none⟩) := (hf4 0 (by decide)).trans ((h3 0 (by decide) (by decide) (by decide) (by decide)).trans g0)
   have q1 : f4 1 = .slice A' xs.length cp := (hf4 1 (by decide)).trans ((h3 1 (by decide) (by decide) (by decide) (by decide)).trans g1)
   have q6 : f4 6 = .chan (some c) := (hf4 6 (by decide)).trans h6
   have q7 : f4 7 = .chan (some e) := (hf4 7 (by decide)).trans h7
   refine ⟨c, e, zS, zE, sendsV xs.length A' xs.length cp (R - p) R, ownOf ROp ρ, _, _, #[], fun b hb => (ho b).2 hb, fun h => ?_, fun h => ?_, hce, rfl, fun d => go_step' W_4_16 true (w5.at d), fun x hx => absurd hx (by simp), rfl, ?_, ?_, ?_, ?_⟩
   · have := hdom c h; omega
   · have := hdom e h; omega
   · rw [fin_av0 W_4_16]
     rw [consB_eq]
     refine ax_end (ax_seq (ax_regn (l := [0, 1, 2, 3]) (by rw [szW5]; rfl) ?_))
     refine ax_p W_5_0 (pure_move (ea (by decide) q0)) bW_kind ?_
     refine ax_p W_5_1 (pure_move (ea (by decide) q6)) bW_kind ?_
     refine ax_p W_5_2 (pure_move (ea (by decide) q7)) bW_kind ?_
     refine ax_call W_5_3 callT calleT ?_
     rw [map3, ea (n := 36) (j := 30) (v := .pointer (some ⟨np', 0, none⟩)) (by decide) rfl, ea (n := 36) (j := 31) (v := .chan (some c)) (by decide) rfl, ea (n := 36) (j := 32) (v := .chan (some e)) (by decide) rfl, enter_t rfl]
     refine ax_block (ax_loop ?_)
     show Act Tryz.prog true ROr _ _ (G (bT.at (av 17 _) (.code roundT :: kT)) _) w5
     rw [← consB_eq]
     refine take_loop hX hF hro hrd hR hnp hof (w0 := w) xs.length ρ w w5 A A' cp xs f p _ J5 hK (Ren.le_refl ρ) (Nat.le_refl _) hlc hx hw ha r2 (Turns.refl hs) hf hp hO rfl rfl rfl ?_
     intro ρ2 w2 w2' J2 hK2 hle2 hT2 hO2
     refine write_tail (f := fu (fu (fu f4 30 (.pointer (some ⟨np', 0, none⟩))) 31 (.chan (some c))) 32 (.chan (some e))) (a := A') (n := xs.length) (c := cp) q1 (.stop fun w6 hw6 => ?_)
     have hro2 : ∀ a b, ρ2 a = some b → ROp a → ROr b := fun a b hab hr => by
      obtain ⟨c1, hc⟩ := hrd a hr
      have := hle2 a c1 hc
      rw [hab] at this
      cases this
      exact hro a b hc hr
     exact ⟨ρ2, w2, .tuple #[.int .i64 (xs.length : Nat), .int .i64 0], _, rfl, hle2, J2.rely hro2 hw6, VRel.tupleOf (vs2 .int .int), rfl, hK2, .inr ⟨rfl, rfl, hT2⟩⟩
   · have e5 : (#[Operand.tmp 14, Operand.tmp 23, Operand.tmp 27, Operand.tmp 28, Operand.tmp 29] : Array Operand).map (av 36 f4).eval = #[.slice A' xs.length cp, .int .i64 ((R - p : Nat) : Nat), .int .i64 (R : Nat), .chan (some c), .chan (some e)] := by
      rw [map5, ea (n := 36) (j := 14) (by decide) (hval 0 (by decide)), ea (n := 36) (j := 23) (by decide) (hval 9 (by decide)), ea (n := 36) (j := 27) (by decide) (hval 13 (by decide)), ea (n := 36) (j := 28) (by decide) (hval 14 (by decide)), ea (n := 36) (j := 29) (by decide) (hval 15 (by decide))]
      rfl
     rw [e5]
     exact send_prod hlc (by omega) (by omega)
   · exact (hr35.keep c (Array.getElem?_eq_some_iff.1 hc).1 (.inl ((ho c).2 (.inr (.inl rfl))))).trans hc
   · exact (hr35.keep e (Array.getElem?_eq_some_iff.1 he).1 (.inl ((ho e).2 (.inr (.inr rfl))))).trans he
end
end
section
open Go.Conc
open Go.RowKit L64 Rw Ln Sg Spo
theorem okB_suf {R S p : Int} {rd : Bool} (h : okB R S p rd = true) : S = 4 ∨ S = 6 ∨ S = 31 := by
 unfold okB at h
 simp only [Bool.and_eq_true] at h
 have h1 := h.1.2
 unfold hasN sufL at h1
 simp at h1
 omega
theorem same_star (xs : List Nat) (hx : AllLt 256 xs) (hl : xs.length ≤ 1000000) (W : World) (A : Option Addr) (c : Nat) (B : Option Addr) (d : Nat) (hw : Words .u8 W A xs) (hw2 : Words .u8 W B xs) :
 Calls Star.prog 8 #[.slice A xs.length c, .slice B xs.length d] W fun e w' => e = .returned (.bool true) ∧ Below W.heap.size W w' :=
 (refSame_any A c xs hx (by unfold maxLen; omega) B d xs hx (by unfold maxLen; omega) W hw hw2).mono fun e w' h => by
   rw [sameB_self] at h
   obtain ⟨rfl, m, rfl⟩ := h
   exact ⟨rfl, (Below.refl _ _).drewN m⟩
theorem same_told {xs : List Nat} {n : Nat} (hn : xs.length = n) (hx : AllLt 256 xs) (hl : n ≤ 1000000) (W : World) (A : Option Addr) (c : Nat) (B : Option Addr) (d : Nat) (hw : Words .u8 W A xs) (hw2 : Words .u8 W B xs) :
 Calls Star.prog 8 #[.slice A n c, .slice B n d] W fun e w' => e = .returned (.bool true) ∧ Below W.heap.size W w' := by
 subst hn
 exact same_star xs hx hl W A c B d hw hw2
end
section
open Go.Conc
open Go.RowKit L64 Rw Ln Sg Spo
theorem wrP_wB : ∀ (q R : Nat) (f : Nat → Nat) (p : Nat) (xs : List Nat), 0 < R → p < R → AllLt 256 xs → xs.length ≤ q → wrP q R f p xs = wB R f p xs
 | 0, R, f, p, xs, _, _, _, hq => by
   obtain rfl : xs = [] := List.eq_nil_of_length_eq_zero (by omega)
   rfl
 | q + 1, R, f, p, xs, hR, hp, hx, hq => by
   unfold wrP
   by_cases h0 : xs.length = 0
   · obtain rfl : xs = [] := List.eq_nil_of_length_eq_zero h0
     rfl
   · rw [if_neg h0]
     have hl : (xs.take (min (R - p) xs.length)).length = min (R - p) xs.length := by rw [List.length_take]; omega
     have hne : xs.take (min (R - p) xs.length) ≠ [] := fun h => by rw [h] at hl; simp at hl; omega
     rw [wrP_wB q R _ _ _ hR (absP_lt (by rw [hl]; omega) hR) (hx.drop _) (by rw [List.length_drop]; omega)]
     have e := wB_append R (xs.take (min (R - p) xs.length)) (xs.drop (min (R - p) xs.length)) f p
     rw [List.take_append_drop, wB_part R _ f p (hx.take _) hne (by rw [hl]; omega)] at e
     exact e.symm
end
end Go.Proofs.YtenffmfklmialaaGreatDoor.Co
