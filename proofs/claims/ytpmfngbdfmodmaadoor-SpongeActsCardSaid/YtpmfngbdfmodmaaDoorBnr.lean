/-  |  |  |  |  |  |  |  |  |  |  |  |  |  |  -/
import Derived.Test.YtpmfngbdfmodmaaDoorBnq
import Derived.Test.YtpmfngbdfmodmaaDoorBng
import Derived.SevenTiedAt
import Derived.Test.YtpmfngbdfmodmaaDoorBnp
import Derived.Test.YtpmfngbdfmodmaaDoorBnh
import Derived.Test.YtpmfngbdfmodmaaDoorBnj
import Derived.Test.YtpmfngbdfmodmaaDoorBnm
import Derived.Deep.LoopGhost
import Derived.Test.YtpmfngbdfmodmaaDoorBni
import Derived.Deep.RegionLaw
import Derived.Test.YtpmfngbdfmodmaaDoorBno
section
namespace Go.Proofs.YtpmfngbdfmodmaaDoor.Co
open Go.Conc Spo
open Go.RowKit
open Sg (Sp Turns spC absF absP words_turns)
open L64 (OTab)
set_option linter.unusedVariables false
set_option linter.unusedSimpArgs false
set_option maxRecDepth 20000
def WPost (w : World) (np R S : Nat) (f : Nat → Nat) (p : Nat) (rd : Bool) (xs : List Nat) (v : Value) (w1 : World) : Prop :=
  (rd = true ∧ v = .tuple #[.int .i64 0, .int .i64 5] ∧ Turns np 29 (spC R S f p true) w w1) ∨
  (rd = false ∧ v = .tuple #[.int .i64 (xs.length : Nat), .int .i64 0] ∧ Turns np 29 (spC R S (wrP xs.length R f p xs).1 (wrP xs.length R f p xs).2 false) w w1)
section
variable {F : Bears} {Gl ROp ROr Old : Nat → Prop} {K : Nat → Option Obj} {w0 : World}
theorem cell_joined {ρ : Ren} {w w' : World} (J : Joined Star.prog Tryd.prog F Gl ROp ρ w w') {n n' i : Nat} (hn : ρ n = some n') {v : Value} (hc : w.cell? ⟨n, i, none⟩ = some v) : ∃ v', w'.cell? ⟨n', i, none⟩ = some v' ∧ VRel F ρ v v' := by
  obtain ⟨v', c, c', t, fr, fr', h1, h2, h3, h4, h5, h6, h7, h8⟩ := J.rel.cell (a := ⟨n, i, none⟩) (a' := ⟨n', i, none⟩) ⟨hn, rfl, rfl⟩ hc
  refine ⟨v', ?_, h8⟩
  unfold World.cell?
  rw [h2]
  simpa using h7
theorem enter_w {vals : Array Value} (h : vals.size = 2) : Frame.enter Tryd.prog 9 vals .normal = bW.at (av 36 fun i => vals.getD i undef) [.code ((Code.region 0 (opsW 0) false).seq (((Code.region 1 (opsW 1) false).seq (Code.cond (Operand.tmp 11) ((Code.region 2 (opsW 2) false).seq Code.ret) Code.skip)).seq ((Code.region 3 (opsW 3) true).seq ((Code.region 4 (opsW 4) true).seq ((Code.region 5 (opsW 5) false).seq ((Code.region 6 (opsW 6) false).seq Code.ret))))))] := by
  rw [← av_enter (by omega)]
  unfold Frame.enter
  rw [fnW]
  dsimp only
  simp only [Option.bind_some, Option.map_some, bodyW, ntW, Option.getD_some]
  rfl
theorem enter_t {vals : Array Value} (h : vals.size = 3) : Frame.enter Tryd.prog 22 vals .normal = bT.at (av 17 fun i => vals.getD i undef) [.code (.block 0 (.loop roundT))] := by
  rw [← av_enter (by omega)]
  unfold Frame.enter
  rw [fnT]
  dsimp only
  simp only [Option.bind_some, Option.map_some, bodyT, ntT, Option.getD_some]
  rfl
theorem map3 (x y z : Operand) (ev : Operand → Value) : (#[x, y, z] : Array Operand).map ev = #[ev x, ev y, ev z] := by simp
theorem map5 (x y z u v : Operand) (ev : Operand → Value) : (#[x, y, z, u, v] : Array Operand).map ev = #[ev x, ev y, ev z, ev u, ev v] := by simp
theorem write_tail {Stop : (Nat → Prop) → Goroutine → World → Prop} {own : Nat → Prop} {f : Nat → Value} {a : Option Addr} {n c : Nat} {fr : Frame} {rs : List Frame} {w : World} (h1 : f 1 = .slice a n c)
    (h : Act Tryd.prog true ROr Stop own (G (fr.finish (.tuple #[.int .i64 (n : Nat), .int .i64 0])) rs) w) : Act Tryd.prog true ROr Stop own (G ((bW.at (av 36 f) (.inRegion (opsW 5) [3] :: .code ((Code.region 6 (opsW 6) false).seq Code.ret) :: [])).finish (.tuple #[])) (fr :: rs)) w := by
  rw [fin_av W_5_3]
  refine ax_end (ax_seq (ax_regn (l := [0, 1, 2, 3]) (by rw [szW6]; rfl) ?_))
  refine ax_p W_6_0 (pure_move (ea (by decide) h1)) bW_kind ?_
  refine ax_p W_6_1 (pure_len u8s_under (ea (by decide) rfl)) bW_kind ?_
  refine ax_p W_6_2 (pure_assign (ea (by decide) rfl)) bW_kind ?_
  refine ax_p W_6_3 (pure_assign rfl) bW_kind (ax_end ?_)
  exact ax_ret2 (i := 4) (j := 5) (by decide) (by decide) rfl fnW resW h
theorem write_head {Stop : (Nat → Prop) → Goroutine → World → Prop} {own : Nat → Prop} {np' : Nat} {sl : Value} {rd : Bool} {fr : Frame} {rs : List Frame} {w : World} (hown : own np') (hc : w.cell? ⟨np', 28, none⟩ = some (.bool rd))
    (h : ∀ f' : Nat → Value, f' 0 = .pointer (some ⟨np', 0, none⟩) → f' 1 = sl → f' 4 = .int .i64 0 → f' 5 = .int .i64 0 → Act Tryd.prog true ROr Stop own (G (bW.at (av 36 f') (.code (if rd then ((Code.region 2 (opsW 2) false).seq Code.ret) else Code.skip) :: .code ((Code.region 3 (opsW 3) true).seq ((Code.region 4 (opsW 4) true).seq ((Code.region 5 (opsW 5) false).seq ((Code.region 6 (opsW 6) false).seq Code.ret)))) :: [])) (fr :: rs)) w) :
    Act Tryd.prog true ROr Stop own (G (Frame.enter Tryd.prog 9 #[.pointer (some ⟨np', 0, none⟩), sl] .normal) (fr :: rs)) w := by
  rw [enter_w rfl]
  refine ax_seq (ax_regn (l := [0, 1]) (by rw [szW0]; rfl) ?_)
  refine ax_p W_0_0 (pure_assign rfl) bW_kind ?_
  refine ax_p W_0_1 (pure_assign rfl) bW_kind (ax_end ?_)
  refine ax_seq (ax_seq (ax_regn (l := [0, 1, 2, 3]) (by rw [szW1]; rfl) ?_))
  refine ax_p W_1_0 (pure_move (v := .pointer (some ⟨np', 0, none⟩)) (ea (by decide) rfl)) bW_kind ?_
  refine ax_p W_1_1 (pure_nilCheck (a := ⟨np', 0, none⟩) (ea (by decide) rfl)) bW_kind ?_
  refine ax_p W_1_2 (fld4 (b := np') (ea (by decide) rfl)) bW_kind ?_
  refine ax_ld W_1_3 (a := ⟨np', 28, none⟩) (ea (by decide) rfl) (ld_bool _) hc (.inl hown) bW_kind (ax_end ?_)
  refine ax_cond (t := rd) (ea (by decide) rfl) (h _ rfl rfl rfl rfl)
theorem write_act (hX : ∀ o p, F.spec o p → StuckOp Star.prog o) (hF : F 30) {w : World} {np R S : Nat} {f : Nat → Nat} {p : Nat} {rd : Bool} {A : Option Addr} {cp : Nat} {xs : List Nat} (hs : Sp w np R S f p rd) (hO : OTab w) (hw : Words .u8 w A xs) (hx : AllLt 256 xs) (hlc : xs.length ≤ cp) (ha : ∀ a, A = some a → a.block ≠ np)
    (hf : ∀ i, f i < 18446744073709551616) (hp : rd = false → p < R) (hR : R < 900) (hnr : ¬ ROp np) (hof : 0 ≠ np) (ρ : Ren) (fr : Frame) (rs : List Frame) (w' : World) (vals' : Array Value) (J : Joined Star.prog Tryd.prog F Gl ROp ρ w w') (hK : Kept K ρ w) (hro : ∀ a b, ρ a = some b → ROp a → ROr b) (hrd : ∀ a, ROp a → ∃ b, ρ a = some b)
    (hvals : VsRel F ρ #[.pointer (some ⟨np, 0, none⟩), .slice A xs.length cp] vals') :
    Act Tryd.prog true ROr (AtGoS Tryd.prog ROr (Act Tryd.prog true ROr (KEnv.Back ⟨Star.prog, Tryd.prog, F, Gl, ROp, ROr, Old, K, w0⟩ ρ fr rs (WPost w np R S f p rd xs)))) (ownOf ROp ρ) (G (Frame.enter Tryd.prog 9 vals' .normal) (fr :: rs)) w' ∨
    Act Tryd.prog true ROr (KEnv.Back ⟨Star.prog, Tryd.prog, F, Gl, ROp, ROr, Old, K, w0⟩ ρ fr rs (WPost w np R S f p rd xs)) (ownOf ROp ρ) (G (Frame.enter Tryd.prog 9 vals' .normal) (fr :: rs)) w' := by
  obtain ⟨v1, e1, r1⟩ := hvals.get (i := 0) rfl
  obtain ⟨v2, e2, r2⟩ := hvals.get (i := 1) rfl
  have hsz : vals'.size = 2 := hvals.1.symm
  have hvals' : vals' = #[v1, v2] := by
    apply Array.ext_getElem?
    intro i
    match i with
    | 0 => simpa using e1
    | 1 => simpa using e2
    | i + 2 => rw [Array.getElem?_eq_none (by omega)]; rfl
  subst hvals'
  obtain ⟨np', rfl, hnp⟩ : ∃ np', v1 = .pointer (some ⟨np', 0, none⟩) ∧ ρ np = some np' := by
    cases r1 with
    | @pointer a a' h =>
      obtain ⟨b, o, s⟩ := a'
      obtain ⟨h1, h2, h3⟩ := h
      dsimp only at h1 h2 h3
      subst h2 h3
      exact ⟨b, rfl, h1⟩
  obtain ⟨A', rfl⟩ : ∃ A', v2 = .slice A' xs.length cp := by generalize xs.length = n at r2 ⊢; cases r2 <;> exact ⟨_, rfl⟩
  have hown : ownOf ROp ρ np' := ⟨np, hnp, hnr⟩
  have c28 : w'.cell? ⟨np', 28, none⟩ = some (.bool rd) := by
    obtain ⟨v', h1, h2⟩ := cell_joined J hnp (hs.cell (Sg.spC_28 _ _ _ _ _))
    cases h2; exact h1
  have c0 : w'.cell? ⟨np', 0, none⟩ = some (.int .i64 (R : Nat)) := by
    obtain ⟨v', h1, h2⟩ := cell_joined J hnp (hs.cell (Sg.spC_0 _ _ _ _ _))
    cases h2; exact h1
  have c27 : w'.cell? ⟨np', 27, none⟩ = some (.int .i64 (p : Nat)) := by
    obtain ⟨v', h1, h2⟩ := cell_joined J hnp (hs.cell (Sg.spC_27 _ _ _ _ _))
    cases h2; exact h1
  cases rd with
  | true =>
    refine .inr (write_head hown c28 fun f' g0 g1 g4 g5 => ?_)
    refine ax_seq (ax_regn (l := [0, 1]) (by rw [szW2]; rfl) ?_)
    refine ax_p W_2_0 (pure_assign rfl) bW_kind ?_
    refine ax_p W_2_1 (pure_assign rfl) bW_kind (ax_end ?_)
    refine ax_ret2 (i := 4) (j := 5) (by decide) (by decide) rfl fnW resW (.stop fun w1 hw1 => ?_)
    refine ⟨ρ, w, .tuple #[.int .i64 0, .int .i64 5], _, rfl, Ren.le_refl ρ, J.rely hro hw1, VRel.tupleOf (vs2 .int .int), rfl, hK, .inl ⟨rfl, rfl, Turns.refl hs⟩⟩
  | false =>
    have hp := hp rfl
    refine .inl (write_head hown c28 fun f0 g0 g1 g4 g5 => ?_)
    refine ax_skip (ax_seq (two_chans fun f3 c e own3 w3 h3 h6 h7 ho hc he hc2 he2 hce hr3 => ?_))
    have ho3 : own3 np' := (ho np').2 (.inl hown)
    have hdom : ∀ b, ownOf ROp ρ b → b < w'.heap.size := fun b hb => by
      obtain ⟨a, ha, _⟩ := hb
      exact (J.rel.dom a b ha).2
    refine ax_seq (go_operands (np' := np') (R := R) (p := p) (c := c) (e := e) (sl := .slice A' xs.length cp) ((h3 0 (by decide) (by decide) (by decide) (by decide)).trans g0) ((h3 1 (by decide) (by decide) (by decide) (by decide)).trans g1) h6 h7 (by omega) hR ho3 (cell_rely hr3 (.inl hown) c0) (cell_rely hr3 (.inl hown) c27) fun f4 w4 hval hf4 hr4 => ?_)
    refine .stop fun w5 hw5 => ?_
    have hr35 : Rely own3 ROr w3 w5 := hr4.trans hw5
    have hr5 : Rely (ownOf ROp ρ) ROr w' w5 := hr3.trans ⟨hr35.size, fun b hb hx => hr35.keep b hb (hx.imp_left fun x => (ho b).2 (.inl x)), hr35.tape, hr35.os, hr35.output⟩
    have J5 := J.rely hro hr5
    have q0 : f4 0 = .pointer (some ⟨np', 0, none⟩) := (hf4 0 (by decide)).trans ((h3 0 (by decide) (by decide) (by decide) (by decide)).trans g0)
    have q1 : f4 1 = .slice A' xs.length cp := (hf4 1 (by decide)).trans ((h3 1 (by decide) (by decide) (by decide) (by decide)).trans g1)
    have q6 : f4 6 = .chan (some c) := (hf4 6 (by decide)).trans h6
    have q7 : f4 7 = .chan (some e) := (hf4 7 (by decide)).trans h7
    refine ⟨c, e, zS, zE, sendsV xs.length A' xs.length cp (R - p) R, ownOf ROp ρ, _, _, #[], fun b hb => (ho b).2 hb, fun h => ?_, fun h => ?_, hce, rfl, fun d => go_step' W_4_16 true (w5.at d), fun x hx => absurd hx (by simp), rfl, ?_, ?_, ?_, ?_⟩
    · have := hdom c h; omega
    · have := hdom e h; omega
    · rw [fin_av0 W_4_16]
      rw [consB_eq]
      refine ax_end (ax_seq (ax_regn (l := [0, 1, 2, 3]) (by rw [szW5]; rfl) ?_))
      refine ax_p W_5_0 (pure_move (ea (by decide) q0)) bW_kind ?_
      refine ax_p W_5_1 (pure_move (ea (by decide) q6)) bW_kind ?_
      refine ax_p W_5_2 (pure_move (ea (by decide) q7)) bW_kind ?_
      refine ax_call W_5_3 callT calleT ?_
      rw [map3, ea (n := 36) (j := 30) (v := .pointer (some ⟨np', 0, none⟩)) (by decide) rfl, ea (n := 36) (j := 31) (v := .chan (some c)) (by decide) rfl, ea (n := 36) (j := 32) (v := .chan (some e)) (by decide) rfl, enter_t rfl]
      refine ax_block (ax_loop ?_)
      show Act Tryd.prog true ROr _ _ (G (bT.at (av 17 _) (.code roundT :: kT)) _) w5
      rw [← consB_eq]
      refine take_loop hX hF hro hrd hR hnp hof (w0 := w) xs.length ρ w w5 A A' cp xs f p _ J5 hK (Ren.le_refl ρ) (Nat.le_refl _) hlc hx hw ha r2 (Turns.refl hs) hf hp hO rfl rfl rfl ?_
      intro ρ2 w2 w2' J2 hK2 hle2 hT2 hO2
      refine write_tail (f := fu (fu (fu f4 30 (.pointer (some ⟨np', 0, none⟩))) 31 (.chan (some c))) 32 (.chan (some e))) (a := A') (n := xs.length) (c := cp) q1 (.stop fun w6 hw6 => ?_)
      have hro2 : ∀ a b, ρ2 a = some b → ROp a → ROr b := fun a b hab hr => by
        obtain ⟨c1, hc⟩ := hrd a hr
        have := hle2 a c1 hc
        rw [hab] at this
        cases this
        exact hro a b hc hr
      exact ⟨ρ2, w2, .tuple #[.int .i64 (xs.length : Nat), .int .i64 0], _, rfl, hle2, J2.rely hro2 hw6, VRel.tupleOf (vs2 .int .int), rfl, hK2, .inr ⟨rfl, rfl, hT2⟩⟩
    · have e5 : (#[Operand.tmp 14, Operand.tmp 23, Operand.tmp 27, Operand.tmp 28, Operand.tmp 29] : Array Operand).map (av 36 f4).eval = #[.slice A' xs.length cp, .int .i64 ((R - p : Nat) : Nat), .int .i64 (R : Nat), .chan (some c), .chan (some e)] := by
        rw [map5, ea (n := 36) (j := 14) (by decide) (hval 0 (by decide)), ea (n := 36) (j := 23) (by decide) (hval 9 (by decide)), ea (n := 36) (j := 27) (by decide) (hval 13 (by decide)), ea (n := 36) (j := 28) (by decide) (hval 14 (by decide)), ea (n := 36) (j := 29) (by decide) (hval 15 (by decide))]
        rfl
      rw [e5]
      exact send_prod hlc (by omega) (by omega)
    · exact (hr35.keep c (Array.getElem?_eq_some_iff.1 hc).1 (.inl ((ho c).2 (.inr (.inl rfl))))).trans hc
    · exact (hr35.keep e (Array.getElem?_eq_some_iff.1 he).1 (.inl ((ho e).2 (.inr (.inr rfl))))).trans he
end
end Go.Proofs.YtpmfngbdfmodmaaDoor.Co
end

section
namespace Go.Proofs.YtpmfngbdfmodmaaDoor.Co
open Go.Conc
set_option linter.unusedVariables false
def lawT (p : Tmp) (r : Value → Prop) (e : Exit) (a : Go.Act) (_ : World) : Prop := (e = .normal ∨ e = .ret) ∧ a.defers = [] ∧ r (a.tmps.getD p undef)
theorem goes_lawT {E : KEnv} (hX : E.Tight) {f : FuncId} {fn : Func} {c : Code} {args : Array Value} {w : World} {p : Tmp} {r : Value → Prop} (hf : E.P.funcs[f]? = some fn) (hb : fn.body = some c) (hr : fn.results = #[.tmp p])
    (h : E.Wk c (lawT p r) { tmps := args ++ Array.replicate (fn.ntmps - args.size) undef, defers := [] } w) : E.Goes (LawStop E.P f (fun v _ => r v)) (G (Frame.enter E.P f args .normal) [botF]) w :=
  goes_law hX hf hb (KEnv.wk_mono h fun e a w ⟨h1, h2, h3⟩ => ⟨h1, h2, _, results_tmp hr a.tmps E.P w, h3⟩)
theorem wpSpine_cons {P : Program} {c : Code} {l : List Code} {R : Go.Act → World → Prop} {Q : Exit → Go.Act → World → Prop} {a : Go.Act} {w : World} (h : c.wp P (Exit.then (wpSpine P l R Q) Q) a w) : wpSpine P (c :: l) R Q a w := h
theorem holds_tied_goes (Lk : Go.Looks) {p : Pinned} {s : OpenSpec} {c : OpenClaim} (kinds : List LaidKind) (tests : Bool) (har : Bool × String) (lk : Bool)
    (hc : c.holds p s) (hw : c.wfByText s = true)
    (htie : c.laidByTextAt Lk p kinds tests)
    (hst : c.start = .entering) (hnb : c.noBlocks = false ∧ c.again = false) (hm : p.checked.prog.mainIs = some (har.1, har.2.toList)) (hn : (!har.1 && har.2.isEmpty && !lk) = false)
    (hl : ∀ f fn, p.checked.prog.funcNamed c.func = some f → p.checked.prog.funcs[f]? = some fn → lk = p.checked.prog.looks [] ∧ ∀ (j : Nat) t, fn.params[j]? = some t → p.checked.prog.wantsStandIn t = false)
    (hg : true = c.goesBy p.checked.prog) :
    Claim7.holds p (.plain s) { stood := { row := c, standIns := [], harness := har, looks := lk }, kinds := [], alts := [], goes := true, laidByText := true, laidKinds := kinds, laidTests := tests, laidLooks := Lk } := by
  have h6 : ∀ r : OpenClaim, Claim7.isSixth { stood := { row := r, standIns := [], harness := har, looks := lk }, kinds := [] } = false := fun r => by simpa [Claim7.isSixth] using hn
  exact ⟨Claim7.tied_new_at Lk kinds tests (Claim7.new_of_sixth hc har lk hst hnb hm (h6 c) hl) hw, (fun D hD => by cases hD), htie, (fun h => by cases h), hg⟩
end Go.Proofs.YtpmfngbdfmodmaaDoor.Co
end

section
namespace Go.Proofs.YtpmfngbdfmodmaaDoor.Co
open Go.Conc
open Go.RowKit L64 Rw Ln Sg Spo
set_option linter.unusedVariables false
set_option linter.unusedSimpArgs false
theorem rdF_lt {R S : Nat} {f : Nat → Nat} {p : Nat} {rd : Bool} {n : Nat} (hf : ∀ i, f i < 18446744073709551616) (i : Nat) : rdF R S f p rd n i < 18446744073709551616 := by
  unfold rdF; split
  · exact turned_lt i
  · exact hf i
theorem rdP_le {R p : Nat} {rd : Bool} {n : Nat} (hp : p ≤ R) : rdP p rd n ≤ R := by unfold rdP; split <;> omega
theorem read_state {n R S : Nat} {f : Nat → Nat} {p : Nat} {rd : Bool} {N : Nat} {w w' : World} {e : Ending} (h : ReadC n R S f p rd N w e w') (hf : ∀ i, f i < 18446744073709551616) (hR : 0 < R) (hp : p ≤ R) (hp2 : rd = false → p < R) :
    ∃ v f' p' rd', e = .returned (.tuple #[v, .int .i64 0]) ∧ Turns n 29 (spC R S f' p' rd') w w' ∧ (∀ i, f' i < 18446744073709551616) ∧ p' ≤ R ∧ (rd' = false → p' < R) := by
  obtain ⟨v, rfl, _, ht⟩ := h
  refine ⟨v, _, _, _, rfl, ht, sqF_lt R N _ _ (fun i => rdF_lt hf i), sqP_le R hR N _ (rdP_le hp), fun h => ?_⟩
  unfold rdR at h
  rw [Bool.or_eq_false_iff] at h
  have hN : N = 0 := by have := of_decide_eq_false h.2; omega
  subst hN
  show rdP p rd 0 < R
  unfold rdP
  rw [if_neg (by omega)]
  exact hp2 h.1
theorem okB_suf {R S p : Int} {rd : Bool} (h : okB R S p rd = true) : S = 4 ∨ S = 6 ∨ S = 31 := by
  unfold okB at h
  simp only [Bool.and_eq_true] at h
  have h1 := h.1.2
  unfold hasN sufL at h1
  simp at h1
  omega
theorem same_star (xs : List Nat) (hx : AllLt 256 xs) (hl : xs.length ≤ 1000000) (W : World) (A : Option Addr) (c : Nat) (B : Option Addr) (d : Nat) (hw : Words .u8 W A xs) (hw2 : Words .u8 W B xs) :
    Calls Star.prog 13 #[.slice A xs.length c, .slice B xs.length d] W fun e w' => e = .returned (.bool true) ∧ Below W.heap.size W w' :=
  (refSame_any A c xs hx (by unfold maxLen; omega) B d xs hx (by unfold maxLen; omega) W hw hw2).mono fun e w' h => by
    rw [sameB_self] at h
    obtain ⟨rfl, m, rfl⟩ := h
    exact ⟨rfl, (Below.refl _ _).drewN m⟩
theorem same_told {xs : List Nat} {n : Nat} (hn : xs.length = n) (hx : AllLt 256 xs) (hl : n ≤ 1000000) (W : World) (A : Option Addr) (c : Nat) (B : Option Addr) (d : Nat) (hw : Words .u8 W A xs) (hw2 : Words .u8 W B xs) :
    Calls Star.prog 13 #[.slice A n c, .slice B n d] W fun e w' => e = .returned (.bool true) ∧ Below W.heap.size W w' := by
  subst hn
  exact same_star xs hx hl W A c B d hw hw2
end Go.Proofs.YtpmfngbdfmodmaaDoor.Co
end

section
namespace Go.Proofs.YtpmfngbdfmodmaaDoor.Co
open Go.Conc
set_option linter.unusedVariables false
set_option linter.unusedSimpArgs false
namespace KEnv
variable {E : KEnv} {ops : Array Oper} {Q : Exit → Go.Act → World → Prop} {a : Go.Act} {w : World}
end KEnv
namespace KEnv
theorem wk_then {E : KEnv} (hX : E.Tight) {c x : Code} {Q : Exit → Go.Act → World → Prop} {a : Go.Act} {w : World} (h : ∀ T, c.wp E.P (fun e a' w' => e = .normal ∧ E.Wk x Q a' w') a (w.taped T)) : E.Wk (.seq c x) Q a w :=
  wk_seq hX (wk_mono (wk_wp hX (Q := fun e a' w' => e = .normal ∧ E.Wk x Q a' w') (fun e a w T ⟨h1, h2⟩ => ⟨h1, wk_tape h2 T⟩) h) (fun e a w ⟨h1, h2⟩ => by subst h1; exact h2))
theorem wk_end {E : KEnv} (hX : E.Tight) {c : Code} {Q : Exit → Go.Act → World → Prop} {a : Go.Act} {w : World} (e0 : Exit) {M : Go.Act → World → Prop} (hM : ∀ a w T, M a w → M a (w.taped T)) (hQ : ∀ a w, M a w → Q e0 a w) (h : ∀ T, c.wp E.P (fun e a' w' => e = e0 ∧ M a' w') a (w.taped T)) : E.Wk c Q a w :=
  wk_mono (wk_wp hX (Q := fun e a' w' => e = e0 ∧ M a' w') (fun e a w T ⟨h1, h2⟩ => ⟨h1, hM _ _ T h2⟩) h) (fun e a w ⟨h1, h2⟩ => by subst h1; exact hQ a w h2)
theorem wk_endk {E : KEnv} (hX : E.Tight) {c x : Code} {Q Q2 : Exit → Go.Act → World → Prop} {a : Go.Act} {w : World} (hQ : ∀ a w, E.Wk x Q2 a w → Q .normal a w) (h : ∀ T, c.wp E.P (fun e a' w' => e = .normal ∧ E.Wk x Q2 a' w') a (w.taped T)) : E.Wk c Q a w :=
  wk_end hX .normal (M := fun a w => E.Wk x Q2 a w) (fun a w T h => wk_tape h T) hQ h
theorem wk_exitk {E : KEnv} (hX : E.Tight) {id : Nat} {c x : Code} {Q Q2 : Exit → Go.Act → World → Prop} {a : Go.Act} {w : World} (hQ : ∀ a w, E.Wk x Q2 a w → Q (.exit id) a w) (h : ∀ T, c.wp E.P (fun e a' w' => e = .exit id ∧ E.Wk x Q2 a' w') a (w.taped T)) : E.Wk c Q a w :=
  wk_end hX (.exit id) (M := fun a w => E.Wk x Q2 a w) (fun a w T h => wk_tape h T) hQ h
end KEnv
end Go.Proofs.YtpmfngbdfmodmaaDoor.Co
end

section
namespace Go.Proofs.YtpmfngbdfmodmaaDoor.Co
open Go.Conc
open Go.ConcN (sumTo)
set_option linter.unusedVariables false
set_option linter.unusedSimpArgs false
namespace KEnv
variable {E : KEnv}
end KEnv
end Go.Proofs.YtpmfngbdfmodmaaDoor.Co
end

section
namespace Go.Proofs.YtpmfngbdfmodmaaDoor.Co
open Go.Conc
open Go.RowKit
set_option linter.unusedVariables false
set_option linter.unusedSimpArgs false
def KB (w w1 : World) : Prop := ∃ T, Below w.heap.size (w.taped T) w1
theorem KB.of {w w1 : World} (h : Below w.heap.size w w1) : KB w w1 := ⟨w.tape, h⟩
theorem KB.refl (w : World) : KB w w := KB.of (Below.refl _ _)
theorem KB.size {w w1 : World} (h : KB w w1) : w.heap.size ≤ w1.heap.size := by obtain ⟨T, h⟩ := h; exact h.size
theorem below_taped {n : Nat} {w w1 : World} (h : Below n w w1) (T : Tape) : Below n (w.taped T) (w1.taped T) := ⟨h.os, rfl, h.output, h.size, h.block⟩
theorem KB.taped {w w1 : World} (h : KB w w1) (T : Tape) : KB w (w1.taped T) := by obtain ⟨T0, h⟩ := h; exact ⟨T, below_taped h T⟩
theorem KB.trans {w w1 w2 : World} (h : KB w w1) (h2 : KB w1 w2) : KB w w2 := by
  obtain ⟨T, h⟩ := h
  obtain ⟨T2, h2⟩ := h2
  exact ⟨T2, (below_taped h T2).trans (h2.mono h.size)⟩
theorem KB.words {k : IntKind} {w w1 : World} {A : Option Addr} {xs : List Nat} (h : KB w w1) (hw : Words k w A xs) : Words k w1 A xs := by
  obtain ⟨T, h⟩ := h
  exact Words.below (w := w.taped T) hw h (Nat.le_refl _)
namespace KEnv
variable {E : KEnv} {ops : Array Oper} {Q : Exit → Go.Act → World → Prop} {a : Go.Act} {w : World}
theorem ops_mono {l : List Nat} {Q2 : Exit → Go.Act → World → Prop} (h : E.Ops ops l Q a w) (hq : ∀ e a w, Q e a w → Q2 e a w) : E.Ops ops l Q2 a w :=
  fun b k cs N hcs hA => h b k cs N hcs fun e a' w' hx => hA e a' w' (hq e a' w' hx)
theorem ops_lone (hX : E.Tight) (k : Nat) (l : List Oper) (hl : ∀ j, l[j]? = ops[k + j]?) (hQ : ∀ a w T, Q .normal a w → Q .normal a (w.taped T)) (h : ∀ T, wpList E.P ops (fun e a' w' => e = .normal ∧ Q .normal a' w') l a (w.taped T)) : E.Ops ops (List.range' k l.length) Q a w :=
  ops_mono (Q := fun e a' w' => e = .normal ∧ Q .normal a' w') (ops_wp hX (fun e a w T ⟨h1, h2⟩ => ⟨h1, hQ a w T h2⟩) fun T => by rw [wpOps_eq_wpList l k hl]; exact h T) (fun e a w ⟨h1, h2⟩ => by subst h1; exact h2)
theorem ops_tail (hX : E.Tight) (k : Nat) (hQ : ∀ a w T, Q .normal a w → Q .normal a (w.taped T)) (h : ∀ T, wpList E.P ops (fun e a' w' => e = .normal ∧ Q .normal a' w') (ops.toList.drop k) a (w.taped T)) : E.Ops ops (List.range' k (ops.toList.drop k).length) Q a w :=
  ops_lone hX k _ (fun j => by rw [List.getElem?_drop, Array.getElem?_toList]) hQ h
end KEnv
end Go.Proofs.YtpmfngbdfmodmaaDoor.Co
end

section
namespace Go.Proofs.YtpmfngbdfmodmaaDoor.Co
open Go.Conc
set_option linter.unusedVariables false
set_option linter.unusedSimpArgs false
namespace KEnv
variable {E : KEnv} {ops : Array Oper} {Q : Exit → Go.Act → World → Prop} {a : Go.Act} {w : World}
end KEnv
end Go.Proofs.YtpmfngbdfmodmaaDoor.Co
end

section
namespace Go.Proofs.YtpmfngbdfmodmaaDoor.Sg
open Go.RowKit L64 Rw Ln
set_option linter.unusedVariables false
set_option linter.unusedSimpArgs false
def bigN (v : OpV) : Bool := decide (500 < v.N) && decide (v.N ≤ 1048576)
def accL (l : List OpV) : Nat → Int
  | 0 => 0
  | i + 1 => wrap64 (accL l i + ((l.getD i default).bs.length : Nat))
def longB (l : List OpV) : Bool := l.any bigN || (decide (600 < accL l l.length) || decide (12 < l.length))
def opC (v : OpV) : Array Value := #[.int .u8 (v.kind : Nat), .slice v.A v.bs.length v.c, .int .i64 v.N]
theorem opC_ones (v : OpV) : OneCells (opC v) := by
  unfold OneCells opC
  simp [Value.oneCell']
theorem loadO (x : Value) : Instr.loadAt 38 x = loadRow 38 x := rfl
theorem storeO (x y : Value) : Instr.storeAt 38 x y = storeRow 38 x y := rfl
theorem run_storeO {w : World} {n : Nat} {c' : Array Value} (hg : RowOk w n 3) (hs' : c'.size = 3) (h1 : OneCells c') :
    (storeRow 38 (.pointer (some ⟨n, 0, none⟩)) (.agg c')).run Star.prog w = .ok () (w.setRow n c') := storeAt_row hg (by kernel_rfl) hs' h1
theorem zeroO (w : World) : (zeroValue 38).run Star.prog w = .ok (.agg #[.int .u8 0, .slice none 0 0, .int .i64 0]) w := by kernel_rfl
attribute [go_sem ↓] loadO storeO zeroO
theorem run_loadO {w : World} {A : Option Addr} {l : List OpV} (h : Opz w A l) {i : Nat} {v : OpV} (hi : l[i]? = some v) {b o : Nat} (hA : A = some ⟨b, o, none⟩) : (loadRow 38 (.pointer (some ⟨b, o + i * 3, none⟩))).run Star.prog w = .ok (.agg (opC v)) w := by
  obtain ⟨b', o', e, h0, h1, h2, _⟩ := h i v hi
  rw [hA] at e
  cases e
  exact run_loadAt_mid (P := Star.prog) w b (o + i * 3) 38 (opC v).toList _ (fun j u hj => by
    match j, hj with
    | 0, hj => cases hj; exact h0
    | 1, hj => cases hj; exact h1
    | 2, hj => cases hj; exact h2
    | j + 3, hj => simp [opC] at hj) Star.underlying38 rfl (by show _ = some 3; kernel_rfl)
set_option maxRecDepth 100000 in
set_option maxHeartbeats 4000000 in
theorem long_any (A : Option Addr) (c : Nat) (l : List OpV) (hl : l.length ≤ c) (hc : c ≤ maxLen) (hv : ∀ v ∈ l, OkV v) (w : World) (hw : Opz w A l) :
    Calls Star.prog 5 #[.slice A l.length c] w fun e w' => e = .returned (.bool (longB l)) ∧ Below w.heap.size w w' := by
  have HW := Lib.hid hw
  have hc2 : l.length ≤ 9223372036854775807 := by unfold maxLen at hc; omega
  clear hw
  go_enter Star.func5, Star.ntmps5
  go_wp2_with fail
  go_loopg [3, 8] l.length (fun g x3 x8 wr => ∃ i : Nat, i + g = l.length ∧ x3 = .int .i64 (accL l i) ∧ x8 = .int .i64 (i : Nat) ∧ Hid (∀ j v, j < i → l[j]? = some v → bigN v = false) ∧ Hid (Below w.heap.size w wr))
  case atStart => exact ⟨0, by omega, rfl, rfl, Lib.hid (fun j v hj => by omega), Lib.hid (Below.refl _ _)⟩
  case round =>
    obtain ⟨i, hi, rfl, rfl, HN, HB⟩ := hrel
    by_cases hlt : i < l.length
    · obtain ⟨g', rfl⟩ : ∃ g', gk = g' + 1 := ⟨gk - 1, by omega⟩
      have hlt2 : (i : Int) < (l.length : Int) := by omega
      obtain ⟨v, hvi⟩ : ∃ v, l[i]? = some v := ⟨l[i], List.getElem?_eq_getElem hlt⟩
      have HO := HW.out.below HB.out
      obtain ⟨b, o, rfl, -⟩ := HO i v hvi
      have l1 := run_loadO HO hvi rfl
      have hok := hv v (List.mem_of_getElem? hvi)
      have HV := Lib.hid hvi
      have hac : accL l (i + 1) = wrap64 (accL l i + (v.bs.length : Nat)) := by
        show wrap64 (accL l i + ((l.getD i default).bs.length : Nat)) = _
        rw [List.getD_eq_getElem?_getD, hvi]
        rfl
      have HAC := Lib.hid hac
      have hwi : IntKind.i64.wrap ((i : Int) + 1) = (i : Int) + 1 := by rw [IntKind.wrap_i64]; omega
      have hcs : (opC v).size = 3 := rfl
      have hco := opC_ones v
      have l2 := run_storeO (Hold.new wr (#[.int .u8 0, .slice none 0 0, .int .i64 0] : Array Value) 38 3 rfl).ok hcs hco
      have e1 : (opC v)[1]'(by rw [hcs]; omega) = .slice v.A v.bs.length v.c := rfl
      have e2 : (opC v)[2]'(by rw [hcs]; omega) = .int .i64 v.N := rfl
      have HB2 := Lib.hid (HB.out.alloc HB.out.size (.cells (opC v) 38))
      clear hvi hac HO hok
      generalize accL l i = ac at *
      cases hb : bigN v with
      | true =>
        have HL : Hid (longB l = true) := Lib.hid (by
          unfold longB
          rw [List.any_eq_true.2 ⟨v, List.mem_of_getElem? HV.out, hb⟩]
          rfl)
        have hb1 : (500 : Int) < v.N ∧ v.N ≤ 1048576 := by unfold bigN at hb; simpa using hb
        obtain ⟨hb2, hb3⟩ := hb1
        clear hb
        go_wp2_with fail
        (try rw [Exit.noGoto_ret])
        go_ret
        exact ⟨by rw [HL.out]; rfl, HB2.out⟩
      | false =>
        have HN2 : Hid (∀ j v', j < i + 1 → l[j]? = some v' → bigN v' = false) := Lib.hid fun j v' hj hv' => by
          by_cases h : j < i
          · exact HN.out j v' h hv'
          · obtain rfl : j = i := by omega
            rw [HV.out] at hv'
            cases hv'
            exact hb
        have hb1 : ¬ (500 : Int) < v.N ∨ ((500 : Int) < v.N ∧ ¬ v.N ≤ 1048576) := by unfold bigN at hb; simp at hb; omega
        clear hb
        rcases hb1 with hb2 | ⟨hb2, hb3⟩
        all_goals
          go_wp2_with fail
          go_roundg g'
          case measure => omega
          case rel => exact ⟨i + 1, by omega, by rw [HAC.out], by rw [Int.natCast_add]; rfl, HN2, HB2⟩
    · obtain rfl : i = l.length := by omega
      have hlt2 : ¬ ((l.length : Int) < (l.length : Int)) := by omega
      have hany : l.any bigN = false := by
        rw [List.any_eq_false]
        intro v hv'
        obtain ⟨j, hj⟩ := List.mem_iff_getElem?.1 hv'
        have := HN.out j v (List.getElem?_eq_some_iff.1 hj).1 hj
        rw [this]; simp
      have HL : Hid (longB l = (decide (600 < accL l l.length) || decide (12 < l.length))) := Lib.hid (by unfold longB; rw [hany]; rfl)
      clear hany
      generalize accL l l.length = ac at *
      by_cases h1 : (600 : Int) < ac
      · have e1 : Hid (decide (600 < ac) = true) := Lib.hid (decide_eq_true h1)
        go_wp2_with fail
        (try rw [Exit.noGoto_ret])
        go_ret
        exact ⟨by rw [HL.out, e1.out]; rfl, HB.out⟩
      · have e1 : Hid (decide (600 < ac) = false) := Lib.hid (decide_eq_false h1)
        by_cases h2 : (12 : Int) < (l.length : Int)
        · have e2 : Hid (decide (12 < l.length) = true) := Lib.hid (decide_eq_true (by omega))
          go_wp2_with fail
          (try rw [Exit.noGoto_ret])
          go_ret
          exact ⟨by rw [HL.out, e1.out, e2.out]; rfl, HB.out⟩
        · have e2 : Hid (decide (12 < l.length) = false) := Lib.hid (decide_eq_false (by omega))
          go_wp2_with fail
          (try rw [Exit.noGoto_ret])
          go_ret
          exact ⟨by rw [HL.out, e1.out, e2.out]; rfl, HB.out⟩
end Go.Proofs.YtpmfngbdfmodmaaDoor.Sg
end

section
namespace Go.Proofs.YtpmfngbdfmodmaaDoor.Sg
open Go.RowKit L64 Rw Ln
set_option linter.unusedVariables false
set_option linter.unusedSimpArgs false
abbrev F64 (f : Nat → Nat) : Prop := ∀ i, f i < 18446744073709551616
theorem winB_append (p : Nat) (xs ys : List Nat) (i : Nat) : winB (p : Int) (xs ++ ys) i = winB (p : Int) xs i ^^^ winB ((p + xs.length : Nat) : Int) ys i := by
  unfold winB
  rw [List.length_append]
  by_cases h1 : (p : Int) ≤ (i : Int) ∧ (i : Int) - (p : Int) < (xs.length : Int)
  · rw [if_pos h1, if_pos (by push_cast; omega), if_neg (by push_cast; omega), Nat.xor_zero, List.getD_eq_getElem?_getD, List.getD_eq_getElem?_getD, List.getElem?_append_left (by omega)]
  · rw [if_neg h1]
    by_cases h2 : ((p + xs.length : Nat) : Int) ≤ (i : Int) ∧ (i : Int) - ((p + xs.length : Nat) : Int) < (ys.length : Int)
    · rw [if_pos h2, if_pos (by push_cast at *; omega), Nat.zero_xor, List.getD_eq_getElem?_getD, List.getD_eq_getElem?_getD, List.getElem?_append_right (by push_cast at *; omega)]
      congr 2
      push_cast at *
      omega
    · rw [if_neg h2, if_neg (by push_cast at *; omega)]
      rfl
theorem xorG_two {f : Nat → Nat} {p q r : Int} {xs ys zs : List Nat} (h : ∀ i, winB p xs i = winB q ys i ^^^ winB r zs i) (hy : AllLt 256 ys) : xorN f p xs = xorN (xorN f q ys) r zs := by
  unfold xorN
  congr 1
  funext i
  show laneB f i ^^^ winB p xs i = laneB (xorN f q ys) i ^^^ winB r zs i
  rw [laneB_xorN hy, h i]
  unfold xorG
  rw [Nat.xor_assoc]
theorem xorN_append (f : Nat → Nat) (p : Nat) (xs ys : List Nat) (hx : AllLt 256 xs) : xorN f (p : Int) (xs ++ ys) = xorN (xorN f (p : Int) xs) ((p + xs.length : Nat) : Int) ys :=
  xorG_two (fun i => winB_append p xs ys i) hx
def wB (R : Nat) : (Nat → Nat) → Nat → List Nat → (Nat → Nat) × Nat
  | f, p, [] => (f, p)
  | f, p, x :: xs => wB R (absF R f p [x]) (absP R p [x]) xs
theorem wB_append (R : Nat) : ∀ (xs ys : List Nat) (f : Nat → Nat) (p : Nat), wB R f p (xs ++ ys) = wB R (wB R f p xs).1 (wB R f p xs).2 ys
  | [], _, _, _ => rfl
  | x :: xs, ys, f, p => wB_append R xs ys (absF R f p [x]) (absP R p [x])
theorem wB_part (R : Nat) : ∀ (xs : List Nat) (f : Nat → Nat) (p : Nat), AllLt 256 xs → xs ≠ [] → p + xs.length ≤ R → wB R f p xs = (absF R f p xs, absP R p xs)
  | [], _, _, _, h, _ => absurd rfl h
  | [x], _, _, _, _, _ => rfl
  | x :: y :: r, f, p, hx, _, hl => by
    have h1 : absF R f p [x] = xorN f p [x] := if_neg (by simp only [List.length_cons, List.length_nil] at *; omega)
    have h2 : absP R p [x] = p + 1 := if_neg (by simp only [List.length_cons, List.length_nil] at *; omega)
    show wB R (absF R f p [x]) (absP R p [x]) (y :: r) = _
    rw [h1, h2, wB_part R (y :: r) _ _ (fun z hz => hx z (List.mem_cons_of_mem _ hz)) (by simp) (by simp only [List.length_cons] at *; omega)]
    have e : xorN f p (x :: y :: r) = xorN (xorN f p [x]) ((p + 1 : Nat) : Int) (y :: r) := xorN_append f p [x] (y :: r) (fun z hz => hx z (by simp at hz; simp [hz]))
    unfold absF absP
    rw [e]
    have hc : (p + 1 + (y :: r).length = R) ↔ (p + (x :: y :: r).length = R) := by simp only [List.length_cons]; omega
    by_cases hd : p + (x :: y :: r).length = R
    · rw [if_pos (hc.2 hd), if_pos hd, if_pos (hc.2 hd), if_pos hd]
    · rw [if_neg (fun h => hd (hc.1 h)), if_neg hd, if_neg (fun h => hd (hc.1 h)), if_neg hd]
      congr 1
      simp only [List.length_cons]
      omega
theorem absP_lt {R p : Nat} {xs : List Nat} (hp : p + xs.length ≤ R) (hR : 0 < R) : absP R p xs < R := by
  unfold absP; split <;> omega
theorem wB_lt (R : Nat) : ∀ (xs : List Nat) (f : Nat → Nat) (p : Nat), F64 f → AllLt 256 xs → F64 (wB R f p xs).1
  | [], _, _, hf, _ => hf
  | x :: xs, f, p, hf, hx => wB_lt R xs _ _ (fun i => by
      have hx1 : AllLt 256 [x] := fun z hz => hx z (by simp at hz; simp [hz])
      unfold absF
      split
      · exact kIt_lt (fun i => xorN_lt hx1 i) 0 24 i
      · exact xorN_lt hx1 i) (fun z hz => hx z (List.mem_cons_of_mem _ hz))
theorem wB_at (R : Nat) (hR : 0 < R) : ∀ (xs : List Nat) (f : Nat → Nat) (p : Nat), p < R → (wB R f p xs).2 = (p + xs.length) % R
  | [], _, p, hp => (Nat.mod_eq_of_lt hp).symm
  | x :: xs, f, p, hp => by
    show (wB R (absF R f p [x]) (absP R p [x]) xs).2 = _
    have h1 : absP R p [x] < R := absP_lt (by simp; omega) hR
    rw [wB_at R hR xs _ _ h1]
    unfold absP
    simp only [List.length_cons, List.length_nil]
    split
    · rename_i h
      rw [show p + (xs.length + 1) = (0 + xs.length) + R by omega, Nat.add_mod_right]
    · rw [show p + (0 + 1) + xs.length = p + (xs.length + 1) by omega]
def blk (R : Nat) (P : List Nat) : Nat → (Nat → Nat)
  | 0 => fun _ => 0
  | k + 1 => kIt (xorN (blk R P k) 0 ((P.drop (R * k)).take R)) 0 24
end Go.Proofs.YtpmfngbdfmodmaaDoor.Sg
end

section
namespace Go.Proofs.YtpmfngbdfmodmaaDoor.Ln
open Go.RowKit Rw L64
set_option linter.unusedVariables false
set_option linter.unusedSimpArgs false
theorem bytesN_take (f : Nat → Nat) (k : Nat) (h : k < 25) : (bytesN f).take (8 * (k + 1)) = (bytesN f).take (8 * k) ++ leB 8 (f k) := by
  refine ext_getD (by rw [List.length_append, List.length_take, List.length_take, bytesN_length, leB_length]; omega) fun i hi => ?_
  rw [List.length_take, bytesN_length] at hi
  rw [getD_take _ _ _ (by omega), bytesN_getD _ _ (by omega)]
  by_cases h1 : i < 8 * k
  · rw [List.getD_eq_getElem?_getD, List.getElem?_append_left (by rw [List.length_take, bytesN_length]; omega), ← List.getD_eq_getElem?_getD, getD_take _ _ _ h1, bytesN_getD _ _ (by omega)]
  · rw [List.getD_eq_getElem?_getD, List.getElem?_append_right (by rw [List.length_take, bytesN_length]; omega), ← List.getD_eq_getElem?_getD, List.length_take, bytesN_length, Nat.min_eq_left (by omega), leB_getD _ _ _ (by omega)]
    unfold laneB
    rw [show i / 8 = k by omega, show i % 8 = i - 8 * k by omega]
theorem row_addr {k : IntKind} {t : TypeId} {base : Nat} {w : World} {A : Option Addr} {n c : Nat} {xs : List Nat} (h : Row k t base w (.slice A n c) xs) (hx : 0 < xs.length) : ∃ g, A = some ⟨g, 0, none⟩ ∧ base ≤ g := by
  rcases h.2 with ⟨e, h0⟩ | ⟨g, cap, cur, e, hb, _⟩
  · omega
  · injection e with e1 _ _
    exact ⟨g, e1, hb⟩
set_option maxRecDepth 20000 in
set_option maxHeartbeats 2000000 in
theorem refBytes14_any (f : Nat → Nat) (hf : ∀ i, f i < 18446744073709551616) (w : World) :
    Calls Star.prog 31 #[.agg (uTab 25 f)] w (Gives .u8 5 (bytesN f) w) := by
  obtain ⟨i0, hi0, hz0, hz1, hz2⟩ := info_parts u8_info2
  have H0 := Hold.new w (uTab 25 f) 24 25 (uTab_size _ _)
  have HB := Lib.hid ((Below.refl w.heap.size w).alloc (Nat.le_refl _) (.cells (uTab 25 f) 24))
  go_enter Star.func31, Star.ntmps31
  go_wp2
  generalize w.alloc (.cells (uTab 25 f) 24) = w1 at *
  have H0' := Lib.hid H0
  have hlt0 := H0.lt
  clear H0
  go_loopg [3, 4] 25 (fun g v i wr => ∃ k : Nat, k + g = 25 ∧ i = .int .i64 (k : Nat) ∧ Hid (Row .u8 5 w1.heap.size wr v ((bytesN f).take (8 * k))) ∧ Hid (Below w1.heap.size w1 wr))
  case atStart => exact ⟨0, by omega, rfl, Row.nil _ _ _ _, Below.refl _ _⟩
  case round =>
    obtain ⟨k, hk, rfl, HR, HBw⟩ := hrel
    by_cases hlt : k < 25
    · obtain ⟨g, rfl⟩ : ∃ g, gk = g + 1 := ⟨gk - 1, by omega⟩
      have hk25 : (k : Int) < 25 := Int.ofNat_lt.2 hlt
      have q1 : wr.cell? ⟨w.heap.size, k, none⟩ = some (.int .u64 (f k : Nat)) := (H0'.out.below HBw.out hlt0).cell (uTab_at 25 _ k hlt)
      have hfk := hf k
      have HT := Lib.hid (bytesN_take f k hlt)
      have hzl : ((bytesN f).take (8 * k)).length ≤ 200 := by rw [List.length_take]; have := bytesN_length f; omega
      generalize (bytesN f).take (8 * k) = zs at *
      generalize f k = x at *
      go_wp2_with fail
      refine (refLittle_any x hfk 8 (by omega) _).mono ?_
      rintro e w2 h2
      obtain ⟨A2, c2, rfl, -, -, -, hw2, hb2⟩ := gives_caps h2
      obtain ⟨g2, o2, rfl, -, -⟩ := hw2.block (i := 0) (by rw [leB_length]; omega)
      have HR2 := Lib.hid (HR.out.below hb2 (Nat.le_refl _))
      have HB2 := Lib.hid (HBw.out.trans (hb2.mono HBw.out.size))
      have HW2 := Lib.hid hw2
      have hl8 : (leB 8 x).length = 8 := leB_length _ _
      clear h2 hw2 hb2 q1 HR HBw
      rw [leB_length]
      generalize leB 8 x = ys at *
      simp only []
      go_step
      refine append_bytes rfl _ _ 36 rfl w1.heap.size 5 i0 Star.underlying36 hi0 hz0 hz1 hz2 _ zs rfl HR2.out ⟨g2, o2, Option.none⟩ c2 ys (by rw [hl8]; rfl) HW2.out (by omega) HB2.out.size ?_
      intro v3 w3 h3 hg3
      have HB3 := Lib.hid (Row.grown0 HR2.out HB2.out HB2.out.size hg3)
      have HR3 := Lib.hid h3
      clear h3 hg3 HR2 HB2 HW2
      go_wp2_with fail
      go_roundg g
      case measure => omega
      case rel => exact ⟨k + 1, by omega, by go_num, by rw [HT.out]; exact HR3, HB3⟩
    · obtain rfl : k = 25 := by omega
      go_wp2
      go_ret
      have hr := HR.out
      rw [List.take_of_length_le (by rw [bytesN_length]; omega)] at hr
      exact Gives.mk (hr.mono HB.out.size) (HB.out.trans (HBw.out.mono HB.out.size))
structure OS (w W : World) (u : Array Value) (g o : Nat) (h : Nat → Nat) : Prop where
  below : Below w.heap.size w W
  r : Hold W w.heap.size 25 (uTab 25 fun _ => 0)
  a : Hold W (w.heap.size + 1) 25 u
  l : ∀ j, j < 25 → W.cell? ⟨g, o + j, none⟩ = some (.int .u64 (h j : Nat))
  far : w.heap.size + 1 < g
theorem OS.setA {w W : World} {u : Array Value} {g o : Nat} {h : Nat → Nat} (F : OS w W u g o h) (u' : Array Value) (hu : u'.size = 25) : OS w (W.setRow (w.heap.size + 1) u') u' g o h :=
  ⟨below_setRow F.below (by omega) _, F.r.other _ (by omega), F.a.set _ hu, fun j hj => by
    rw [← F.l j hj]
    have := F.far
    unfold World.cell?
    rw [setRow_other _ _ _ _ (by show g ≠ _; omega)], F.far⟩
def partN (g : Nat → Nat) (k i : Nat) : Nat := if i < k then g i else 0
theorem partN_zero (n : Nat) (g : Nat → Nat) : uTab n (partN g 0) = uTab n fun _ => 0 := uTab_congr fun i _ => if_neg (by omega)
theorem partN_full (n : Nat) (g : Nat → Nat) : uTab n (partN g n) = uTab n g := uTab_congr fun i hi => if_pos hi
theorem partN_step (n : Nat) (g : Nat → Nat) (k : Nat) (v : Int) (hv : v = (g k : Nat)) : (uTab n (partN g k)).setIfInBounds k (.int .u64 v) = uTab n (partN g (k + 1)) :=
  uTab_set n _ _ k v (by unfold partN; rw [if_pos (by omega)]; exact hv) fun i _ hn => by unfold partN; by_cases h : i < k <;> simp [h, show i < k + 1 ↔ i < k by omega]
set_option maxRecDepth 20000 in
set_option maxHeartbeats 2000000 in
theorem refOf14_any (A : Option Addr) (c : Nat) (xs : List Nat) (hx : AllLt 256 xs) (hl : xs.length = 200) (w : World) (hw : Words .u8 w A xs) :
    Calls Star.prog 33 #[.slice A 200 c] w fun e w' => e = .returned (.agg (uTab 25 (laneOf fun i => xs.getD i 0))) ∧ Below w.heap.size w w' := by
  go_enter Star.func33, Star.ntmps33
  go_wp2_with fail
  obtain ⟨w1, hw1⟩ : ∃ w1, w1 = (w.alloc (.cells (uTab 25 fun _ => 0) 24)).alloc (.cells (uTab 25 fun _ => 0) 24) := ⟨_, rfl⟩
  have HB : Below w.heap.size w w1 := by rw [hw1]; exact ((Below.refl _ w).alloc (Nat.le_refl _) _).alloc (by simp) _
  have HR : Hold w1 w.heap.size 25 (uTab 25 fun _ => 0) := by rw [hw1]; exact (Hold.new w _ _ 25 (uTab_size _ _)).past _
  have HA : Hold w1 (w.heap.size + 1) 25 (uTab 25 fun _ => 0) := by rw [hw1]; exact Hold.new1 w _ _ _ 25 (uTab_size _ _)
  have hs1 : w1.heap.size = w.heap.size + 2 := by rw [hw1]; simp
  rw [← hw1]
  have C1 := refLittle64_any A c xs hx (by omega) w1 (hw.below HB (Nat.le_refl _))
  rw [little_lanes xs hl, hl] at C1
  clear hw1
  refine C1.mono ?_
  rintro e w2 h2
  obtain ⟨A2, c2, rfl, hlc2, hcm2, hr2, hw2, hb2⟩ := gives_caps h2
  have hlen : ((List.range 25).map (laneOf fun i => xs.getD i 0)).length = 25 := by simp
  obtain ⟨g, rfl, hg⟩ := row_addr hr2 (by rw [hlen]; omega)
  have F0 : Hid (OS w w2 (uTab 25 (partN (laneOf fun i => xs.getD i 0) 0)) g 0 (laneOf fun i => xs.getD i 0)) := by
    rw [partN_zero]
    refine ⟨HB.trans (hb2.mono HB.size), HR.call hb2, HA.call hb2, fun j hj => ?_, by omega⟩
    obtain ⟨b, o, e, hc⟩ := hw2 j (by rw [hlen]; exact hj)
    cases e
    rw [getD_map _ _ _ _ hj] at hc
    exact hc
  rw [hlen]
  clear h2 hr2 hw2 hb2 HB HR HA C1 hw hlc2 hlen
  generalize hh : laneOf (fun i => xs.getD i 0) = h at *
  have HH := Lib.hid hh
  clear hh
  go_wp2_with fail
  go_loopg [5] 25 (fun g' i wr => ∃ k : Nat, k + g' = 25 ∧ i = .int .i64 (k : Nat) ∧ Hid (OS w wr (uTab 25 (partN h k)) g 0 h))
  case atStart => exact ⟨0, by omega, rfl, F0⟩
  case round =>
    clear F0
    obtain ⟨k, hk, rfl, HF⟩ := hrel
    by_cases hlt : k < 25
    · obtain ⟨g', rfl⟩ : ∃ g', gk = g' + 1 := ⟨gk - 1, by omega⟩
      have hk25 : (k : Int) < 25 := Int.ofNat_lt.2 hlt
      have q1 : wr.cell? ⟨g, k, none⟩ = some (.int .u64 (h k : Nat)) := by have := HF.out.l k hlt; rwa [Nat.zero_add] at this
      have q2 : wr.cell? ⟨w.heap.size + 1, k, none⟩ = some (.int .u64 (partN h k k : Nat)) := HF.out.a.cell (uTab_at 25 _ k hlt)
      have q3 := HF.out.a.frozen k
      have q4 := HF.out.a.setCell k
      have HS := Lib.hid (partN_step 25 h k (h k : Nat) rfl)
      have HF2 := Lib.hid (HF.out.setA ((uTab 25 (partN h k)).setIfInBounds k (.int .u64 (h k : Nat))) (by rw [Array.size_setIfInBounds, uTab_size]))
      rw [HS.out] at HF2
      clear HF
      go_wp2
      rw [HS.out]
      go_roundg g'
      case measure => omega
      case rel => exact ⟨k + 1, by omega, by go_num, HF2⟩
    · obtain rfl : k = 25 := by omega
      rw [partN_full] at HF
      have q1 : (loadRow 24 (.pointer (some ⟨w.heap.size + 1, 0, none⟩))).run Star.prog wr = .ok (.agg (uTab 25 h)) wr := HF.out.a.load Star.underlying24 rfl (by kernel_rfl)
      have q2 := HF.out.r.ok
      go_wp2
      exact row_ret (P := Star.prog) (n := w.heap.size) (p := 2) (k := 25) (c := uTab 25 h) rfl rfl (HF.out.r.set _ (uTab_size _ _)).ok (HF.out.r.set _ (uTab_size _ _)).at' Star.underlying24 rfl (by kernel_rfl) rfl ⟨by rw [HH.out], below_setRow HF.out.below (Nat.le_refl _) _⟩
end Go.Proofs.YtpmfngbdfmodmaaDoor.Ln
end

section
namespace Go.Proofs.YtpmfngbdfmodmaaDoor.Ln
open Go.RowKit Rw L64
set_option linter.unusedVariables false
set_option linter.unusedSimpArgs false
theorem row_open {k : IntKind} {t : TypeId} {base : Nat} {w : World} {A : Option Addr} {n c : Nat} {xs : List Nat} (h : Row k t base w (.slice A n c) xs) (hx : 0 < xs.length) :
    ∃ g cur, A = some ⟨g, 0, none⟩ ∧ base ≤ g ∧ Hold w g c cur ∧ ∀ j, j < xs.length → cur[j]? = some (.int k (xs.getD j 0 : Nat)) := by
  rcases h.2 with ⟨e, h0⟩ | ⟨g, cap, cur, e, hb, hg, hn, hm, hs, ht⟩
  · omega
  · injection e with e1 e2 e3
    subst e3
    refine ⟨g, cur, e1, hb, ⟨⟨cur, t, hg, by omega⟩, rowAt_of hg⟩, fun j hj => ?_⟩
    have h1 := cellsOf_at k xs j hj
    rw [← ht, List.getElem?_take_of_lt (by omega), Array.getElem?_toList] at h1
    exact h1
structure XS (w W : World) (g cap : Nat) (cur : Array Value) (h : Nat → Nat) : Prop where
  below : Below w.heap.size w W
  r : Hold W (w.heap.size + 1) 25 (uTab 25 fun _ => 0)
  l : Hold W g cap cur
  at' : ∀ j, j < 200 → cur[j]? = some (.int .u8 (h j : Nat))
  far : w.heap.size + 1 < g
theorem XS.drew {w W : World} {g cap : Nat} {cur : Array Value} {h : Nat → Nat} (F : XS w W g cap cur h) : XS w W.drew g cap cur h := ⟨below_drew F.below, F.r.drew, F.l.drew, F.at', F.far⟩
theorem XS.set {w W : World} {g cap : Nat} {cur : Array Value} {h h' : Nat → Nat} (F : XS w W g cap cur h) (i : Nat) (v : Int) (hv : v = (h' i : Nat)) (ho : ∀ j, j < 200 → j ≠ i → h' j = h j) :
    XS w (W.setRow g (cur.setIfInBounds i (.int .u8 v))) g cap (cur.setIfInBounds i (.int .u8 v)) h' := by
  have hf := F.far
  obtain ⟨t, hg, hs⟩ := F.l.heap
  refine ⟨below_setRow F.below (by omega) _, F.r.other _ (by omega), F.l.set _ (by rw [Array.size_setIfInBounds, hs]), fun j hj => ?_, hf⟩
  rw [Array.getElem?_setIfInBounds]
  have hsz := (Array.getElem?_eq_some_iff.1 (F.at' j hj)).1
  by_cases hij : i = j
  · subst hij; rw [if_pos rfl, if_pos hsz, hv]
  · rw [if_neg hij, F.at' j hj, ho j hj (fun e => hij e.symm)]
def byteUp (f : Nat → Nat) (p : Int) (xs : List Nat) (k i : Nat) : Nat := if i < k then xorG f p xs i else laneB f i
theorem byteUp_skip {f : Nat → Nat} {p : Int} {xs : List Nat} {k : Nat} (h : ¬ (p ≤ (k : Int) ∧ (k : Int) - p < (xs.length : Int))) : byteUp f p xs (k + 1) = byteUp f p xs k := by
  funext i
  unfold byteUp
  by_cases h1 : i < k
  · rw [if_pos h1, if_pos (by omega)]
  · by_cases h2 : i = k
    · subst h2
      rw [if_pos (by omega), if_neg h1]
      unfold xorG winB
      rw [if_neg h, Nat.xor_zero]
    · rw [if_neg h1, if_neg (by omega)]
theorem byteUp_else {f : Nat → Nat} {p : Int} {xs : List Nat} {k : Nat} (j : Nat) (h : j ≠ k) : byteUp f p xs (k + 1) j = byteUp f p xs k j := by
  unfold byteUp
  by_cases h1 : j < k
  · rw [if_pos h1, if_pos (by omega)]
  · rw [if_neg h1, if_neg (by omega)]
theorem byteUp_here {f : Nat → Nat} {p : Int} {xs : List Nat} {k : Nat} : byteUp f p xs k k = laneB f k := if_neg (by omega)
theorem byteUp_now {f : Nat → Nat} {p : Int} {xs : List Nat} {k m : Nat} (h1 : (m : Int) = (k : Int) - p) (h2 : m < xs.length) : byteUp f p xs (k + 1) k = laneB f k ^^^ xs.getD m 0 := by
  unfold byteUp xorG winB
  rw [if_pos (by omega), if_pos (by omega), show ((k : Int) - p).toNat = m by omega]
set_option maxRecDepth 20000 in
set_option maxHeartbeats 4000000 in
theorem refXor14_any (f : Nat → Nat) (hf : ∀ i, f i < 18446744073709551616) (p : Int) (hp : -9223372036854775808 ≤ p) (hp' : p ≤ 9223372036854775807) (A : Option Addr) (c : Nat) (xs : List Nat) (hx : AllLt 256 xs) (hl : xs.length ≤ 900) (w : World) (hw : Words .u8 w A xs) :
    Calls Star.prog 23 #[.agg (uTab 25 f), .int .i64 p, .slice A xs.length c] w fun e w' => e = .returned (.agg (uTab 25 (xorN f p xs))) ∧ Below w.heap.size w w' := by
  have H0 := (Hold.new w (uTab 25 f) 24 25 (uTab_size _ _)).past (.cells (uTab 25 fun _ => 0) 24)
  have H1 := Hold.new1 w (.cells (uTab 25 f) 24) (uTab 25 fun _ => 0) 24 25 (uTab_size _ _)
  have HB := ((Below.refl w.heap.size w).alloc (Nat.le_refl _) (.cells (uTab 25 f) 24)).alloc (by simp) (.cells (uTab 25 fun _ => 0) 24)
  have HXl := Lib.hid (xorG_lt (f := f) (p := p) hx)
  have HWin := Lib.hid (fun k => byteUp_skip (f := f) (p := p) (xs := xs) (k := k))
  go_enter Star.func23, Star.ntmps23
  go_wp2_with fail
  generalize (w.alloc (.cells (uTab 25 f) 24)).alloc (.cells (uTab 25 fun _ => 0) 24) = w1 at *
  refine (refBytes14_any f hf _).mono ?_
  rintro e w2 h2
  obtain ⟨A2, c2, rfl, hlc2, hcm2, hr2, hw2, hb2⟩ := gives_caps h2
  obtain ⟨g, cur, rfl, hg, hh, hat⟩ := row_open hr2 (by rw [bytesN_length]; omega)
  rw [bytesN_length] at hat hlc2
  have F0 : Hid (XS w w2 g c2 cur (byteUp f p xs 0)) :=
    ⟨HB.trans (hb2.mono HB.size), H1.call hb2, hh, fun j hj => by rw [hat j hj, bytesN_getD _ _ hj]; rfl, Nat.lt_of_lt_of_le H1.lt hg⟩
  rw [bytesN_length]
  clear h2 hr2 hw2 hb2 H0 H1 HB hh hat hg
  go_wp2_with fail
  go_loopg [8] 200 (fun g' i wr => ∃ (k : Nat) (cu : Array Value), k + g' = 200 ∧ i = .int .i64 (k : Nat) ∧ Hid (XS w wr g c2 cu (byteUp f p xs k)))
  case atStart => exact ⟨0, cur, by omega, rfl, F0⟩
  case round =>
    clear F0
    obtain ⟨k, cu, hk, rfl, HF⟩ := hrel
    by_cases hlt : k < 200
    · obtain ⟨g', rfl⟩ : ∃ g', gk = g' + 1 := ⟨gk - 1, by omega⟩
      have hk25 : (k : Int) < 200 := Int.ofNat_lt.2 hlt
      by_cases hin : p ≤ (k : Int) ∧ (k : Int) - p < (xs.length : Int)
      · obtain ⟨m, hm⟩ : ∃ m : Nat, (m : Int) = (k : Int) - p := ⟨((k : Int) - p).toNat, by omega⟩
        have hml : m < xs.length := by omega
        have hmi : (m : Int) < (xs.length : Int) := by omega
        have hpk := hin.1
        have k1 : IntKind.i64.wrap ((k : Int) - p) = (m : Nat) := by rw [← hm, IntKind.wrap_i64]; omega
        have F1 := HF.out.drew
        obtain ⟨b, o, rfl, hbl, hc⟩ := hw.block hml
        have hy := hx.at hml
        have c1 : wr.drew.cell? ⟨b, o + m, none⟩ = some (.int .u8 (xs.getD m 0 : Nat)) := (F1.below.cell (p := ⟨b, o + m, none⟩) hbl).trans hc
        have c2' : wr.drew.cell? ⟨g, k, none⟩ = some (.int .u8 (laneB f k : Nat)) := by rw [← byteUp_here (p := p) (xs := xs)]; exact F1.l.cell (F1.at' k hlt)
        have c3 := F1.l.frozen k
        have c4 := F1.l.setCell k
        have hz := laneB_lt f k
        have C1 := fun W => refXor8_any (laneB f k) (xs.getD m 0) hz hy W
        have HF2 := Lib.hid (F1.set (h' := byteUp f p xs (k + 1)) k ((laneB f k ^^^ xs.getD m 0 : Nat) : Int) (by rw [byteUp_now hm hml]) (fun j _ hj => byteUp_else j hj))
        clear HF F1 hc hin hm
        generalize xs.getD m 0 = y at *
        generalize laneB f k = z at *
        go_wp2
        refine wp_region_still_tail 14 (by kernel_rfl) (by kernel_rfl) ?_
        change wpStill _ _ wr.drew (fun a' => wpList _ _ _ _ a' wr.drew) _ _
        generalize wr.drew = W3 at *
        simp only [List.take_succ_cons, List.take_zero, List.drop_succ_cons, List.drop_zero]
        repeat still_step
        still_call (still_of (C1 _))
        repeat still_step
        refine wpStill_nil ?_
        go_wp2
        go_roundg g'
        case measure => omega
        case rel => exact ⟨k + 1, _, by omega, by go_num, HF2⟩
      · have HF2 := HF
        rw [← HWin.out k hin] at HF2
        clear HF
        by_cases h1 : p ≤ (k : Int)
        · have h3 : (xs.length : Int) ≤ (k : Int) - p := by omega
          by_cases h2 : (k : Int) - p ≤ 9223372036854775807
          · have k1 : IntKind.i64.wrap ((k : Int) - p) = (k : Int) - p := by rw [IntKind.wrap_i64]; omega
            have h4 : (0 : Int) ≤ (k : Int) - p := by omega
            clear hin
            go_wp2
            go_roundg g'
            case measure => omega
            case rel => exact ⟨k + 1, _, by omega, by go_num, HF2⟩
          · obtain ⟨q, hq⟩ : ∃ q : Int, q = (k : Int) - p - 18446744073709551616 := ⟨_, rfl⟩
            have k1 : IntKind.i64.wrap ((k : Int) - p) = q := by rw [hq, IntKind.wrap_i64]; omega
            have h4 : q < 0 := by omega
            clear hin hq
            go_wp2
            go_roundg g'
            case measure => omega
            case rel => exact ⟨k + 1, _, by omega, by go_num, HF2⟩
        · have h1' : (k : Int) < p := by omega
          clear hin
          go_wp2
          go_roundg g'
          case measure => omega
          case rel => exact ⟨k + 1, _, by omega, by go_num, HF2⟩
    · obtain rfl : k = 200 := by omega
      have F1 := HF.out
      have hws : Words .u8 wr (some ⟨g, 0, none⟩) ((List.range 200).map (xorG f p xs)) := fun i hi => by
        have hi' : i < 200 := by simpa using hi
        refine ⟨g, 0, rfl, ?_⟩
        rw [Nat.zero_add, F1.l.cell (F1.at' i hi'), getD_map _ _ _ _ hi']
        unfold byteUp
        rw [if_pos hi']
      have C1 := refOf14_any (some ⟨g, 0, none⟩) c2 ((List.range 200).map (xorG f p xs)) (AllLt.map fun i _ => HXl.out i) (by simp) wr hws
      have e : uTab 25 (laneOf fun i => ((List.range 200).map (xorG f p xs)).getD i 0) = uTab 25 (xorN f p xs) := uTab_congr fun j hj => laneOf_congr j hj fun i hi => getD_map _ _ _ _ hi
      rw [e] at C1
      have HR := Lib.hid F1.r
      have HB := Lib.hid F1.below
      clear HF F1 hws e
      go_wp2_with fail
      refine C1.mono ?_
      rintro e w5 ⟨rfl, hb5⟩
      have HR5 := HR.out.call hb5
      have HB5 := HB.out.trans (hb5.mono HB.out.size)
      have q2 := HR5.ok
      clear hb5 HR HB C1
      go_wp2
      exact row_ret (P := Star.prog) (n := w.heap.size + 1) (p := 6) (k := 25) (c := uTab 25 (xorN f p xs)) rfl rfl (HR5.set _ (uTab_size _ _)).ok (HR5.set _ (uTab_size _ _)).at' Star.underlying24 rfl (by kernel_rfl) rfl ⟨rfl, below_setRow HB5 (by omega) _⟩
def outK (f : Nat → Nat) (p n : Int) (k : Nat) : List Nat := ((List.range k).filter fun i : Nat => decide (p ≤ (i : Int) ∧ (i : Int) - p < n)).map (laneB f)
theorem outK_le (f : Nat → Nat) (p n : Int) (k : Nat) : (outK f p n k).length ≤ k := by
  unfold outK
  rw [List.length_map]
  exact Nat.le_trans (List.length_filter_le _ _) (by simp)
theorem outK_skip {f : Nat → Nat} {p n : Int} {k : Nat} (h : ¬ (p ≤ (k : Int) ∧ (k : Int) - p < n)) : outK f p n (k + 1) = outK f p n k := by
  unfold outK
  rw [List.range_succ, List.filter_append]
  simp [h]
theorem outK_take {f : Nat → Nat} {p n : Int} {k : Nat} (h : p ≤ (k : Int) ∧ (k : Int) - p < n) : outK f p n (k + 1) = outK f p n k ++ [laneB f k] := by
  unfold outK
  rw [List.range_succ, List.filter_append]
  simp [h]
set_option maxRecDepth 20000 in
set_option maxHeartbeats 4000000 in
theorem refOut14_any (f : Nat → Nat) (hf : ∀ i, f i < 18446744073709551616) (p n : Int) (hp : -9223372036854775808 ≤ p) (hp' : p ≤ 9223372036854775807) (hn : -9223372036854775808 ≤ n) (hn' : n ≤ 9223372036854775807) (w : World) :
    Calls Star.prog 28 #[.agg (uTab 25 f), .int .i64 p, .int .i64 n] w (Gives .u8 5 (outN f p n) w) := by
  obtain ⟨i0, hi0, hz0, hz1, hz2⟩ := info_parts u8_info2
  have HB := (Below.refl w.heap.size w).alloc (Nat.le_refl _) (.cells (uTab 25 f) 24)
  go_enter Star.func28, Star.ntmps28
  go_wp2_with fail
  generalize w.alloc (.cells (uTab 25 f) 24) = w1 at *
  refine (refBytes14_any f hf _).mono ?_
  rintro e w2 h2
  obtain ⟨A2, c2, rfl, hlc2, hcm2, hr2, hw2, hb2⟩ := gives_caps h2
  obtain ⟨g, cur, rfl, hg, hh, hat⟩ := row_open hr2 (by rw [bytesN_length]; omega)
  rw [bytesN_length] at hat hlc2
  have HC : ∀ j, j < 200 → w2.cell? ⟨g, j, none⟩ = some (.int .u8 (laneB f j : Nat)) := fun j hj => by rw [hh.cell (hat j hj), bytesN_getD _ _ hj]
  have hgl := hh.lt
  have HB2 := Lib.hid (HB.trans (hb2.mono HB.size))
  have HCh := Lib.hid HC
  rw [bytesN_length]
  clear h2 hr2 hw2 hb2 HB hh hat hg HC
  go_wp2_with fail
  go_loopg [8, 9] 200 (fun g' v i wr => ∃ k : Nat, k + g' = 200 ∧ i = .int .i64 (k : Nat) ∧ Hid (Row .u8 5 w2.heap.size wr v (outK f p n k)) ∧ Hid (Below w2.heap.size w2 wr))
  case atStart => exact ⟨0, by omega, rfl, Row.nil _ _ _ _, Below.refl _ _⟩
  case round =>
    obtain ⟨k, hk, rfl, HR, HBw⟩ := hrel
    by_cases hlt : k < 200
    · obtain ⟨g', rfl⟩ : ∃ g', gk = g' + 1 := ⟨gk - 1, by omega⟩
      have hk25 : (k : Int) < 200 := Int.ofNat_lt.2 hlt
      by_cases hin : p ≤ (k : Int) ∧ (k : Int) - p < n
      · have hpk := hin.1
        have hkn := hin.2
        have k1 : IntKind.i64.wrap ((k : Int) - p) = (k : Int) - p := by rw [IntKind.wrap_i64]; omega
        have h4 : (0 : Int) ≤ (k : Int) - p := by omega
        have c1 : wr.cell? ⟨g, k, none⟩ = some (.int .u8 (laneB f k : Nat)) := (HBw.out.cell (p := ⟨g, k, none⟩) hgl).trans (HCh.out k hlt)
        have hz := laneB_lt f k
        have HT := Lib.hid (outK_take (f := f) hin)
        have hzl := outK_le f p n k
        have hsz := HBw.out.size
        clear hin
        generalize outK f p n k = zs at *
        generalize laneB f k = z at *
        go_wp2_with (at_builtin; refine wpList_append_own _ rfl _ _ 36 rfl w2.heap.size 5 i0 (.int .u8 0) 1 1 Star.underlying36 hi0 hz0 hz1 hz2 rfl (by decide) _ _ _ rfl (World.ownsRow.alloc HR.out _) ⟨wr.heap.size, 0, Option.none⟩ 1 1 [.int .u8 (z : Int)] rfl rfl (one_at _ _ _) (fun u hu => by simp at hu; subst hu; rfl) (by unfold maxLen; omega) (by omega) (by simp; omega) ?_; intro v' w3 hown' hgrow _; have HB3 := Lib.hid (Row.grown HR.out HBw.out hsz hgrow); have HR3 := Lib.hid (Row.snoc rfl hown'); clear hown' hgrow)
        go_wp2_with fail
        go_roundg g'
        case measure => omega
        case rel => exact ⟨k + 1, by omega, by go_num, by rw [HT.out]; exact HR3, HB3⟩
      · have HR2 := HR
        rw [← outK_skip hin] at HR2
        clear HR
        by_cases h1 : p ≤ (k : Int)
        · have h3 : n ≤ (k : Int) - p := by omega
          by_cases h2 : (k : Int) - p ≤ 9223372036854775807
          · have k1 : IntKind.i64.wrap ((k : Int) - p) = (k : Int) - p := by rw [IntKind.wrap_i64]; omega
            have h4 : (0 : Int) ≤ (k : Int) - p := by omega
            clear hin
            go_wp2
            go_roundg g'
            case measure => omega
            case rel => exact ⟨k + 1, by omega, by go_num, HR2, HBw⟩
          · obtain ⟨q, hq⟩ : ∃ q : Int, q = (k : Int) - p - 18446744073709551616 := ⟨_, rfl⟩
            have k1 : IntKind.i64.wrap ((k : Int) - p) = q := by rw [hq, IntKind.wrap_i64]; omega
            have h4 : q < 0 := by omega
            clear hin hq
            go_wp2
            go_roundg g'
            case measure => omega
            case rel => exact ⟨k + 1, by omega, by go_num, HR2, HBw⟩
        · have h1' : (k : Int) < p := by omega
          clear hin
          go_wp2
          go_roundg g'
          case measure => omega
          case rel => exact ⟨k + 1, by omega, by go_num, HR2, HBw⟩
    · obtain rfl : k = 200 := by omega
      go_wp2
      go_ret
      exact Gives.mk (Row.mono HR.out HB2.out.size) (HB2.out.trans (HBw.out.mono HB2.out.size))
end Go.Proofs.YtpmfngbdfmodmaaDoor.Ln
end

section
namespace Go.Proofs.YtpmfngbdfmodmaaDoor.L64
open Go.RowKit Rw
set_option linter.unusedVariables false
set_option linter.unusedSimpArgs false
end Go.Proofs.YtpmfngbdfmodmaaDoor.L64
end

section
namespace Go.Proofs.YtpmfngbdfmodmaaDoor.L64
open Go.RowKit Rw
set_option linter.unusedVariables false
set_option linter.unusedSimpArgs false
theorem rl_zero {x : Nat} (hx : x < 18446744073709551616) : rl x 0 = x := rot_zero (n := 64) (by omega) hx
set_option maxRecDepth 20000 in
set_option maxHeartbeats 1000000 in
theorem left_any (x n : Nat) (hx : x < 18446744073709551616) (hn : n < 64) (w : World) : Calls Star.prog 58 #[.int .u64 (x : Nat), .int .i64 (n : Nat)] w fun e w' => e = .returned (.int .u64 (rl x n : Nat)) ∧ w = w' := by
  by_cases h0 : n = 0
  · subst h0
    rw [rl_zero hx]
    go_enter Star.func58, Star.ntmps58
    go_wp2
    go_ret
    exact ⟨rfl, rfl⟩
  · obtain ⟨m, hm⟩ : ∃ m, m = 64 - n := ⟨_, rfl⟩
    have hm2 : 64 - (n : Int) = (m : Int) := by omega
    have w1 : IntKind.u64.wrap (n : Int) = (n : Int) := by rw [IntKind.wrap_u64]; omega
    have w2 : IntKind.u64.wrap (m : Int) = (m : Int) := by rw [IntKind.wrap_u64]; omega
    have w3 : IntKind.i64.wrap (64 - (n : Int)) = (m : Int) := by rw [IntKind.wrap_i64]; omega
    have hn0 : ((n : Int) == 0) = false := by simp; omega
    have HE : Hid (rl x n = x / 2 ^ m ||| x * 2 ^ n % 18446744073709551616) := by
      unfold Hid rl rot
      rw [show (64 - n) % 64 = m by omega, show 64 - m = n by omega]
    have hm64 : m < 64 := by omega
    clear hm
    go_enter Star.func58, Star.ntmps58
    go_wp2
    go_ret
    refine ⟨ret_int ?_, rfl⟩
    have a1 : x / 2 ^ m < 18446744073709551616 := Nat.lt_of_le_of_lt (Nat.div_le_self _ _) hx
    have a2 : x * 2 ^ n % 18446744073709551616 < 18446744073709551616 := Nat.mod_lt _ (by omega)
    have a3 := u64_or_nat _ _ a2 a1
    rw [Nat.or_comm, ← HE.out] at a3
    simp only [Int.natCast_ediv, Int.natCast_pow, Int.natCast_emod, Int.natCast_mul, Int.cast_ofNat_Int] at a3
    rw [IntKind.wrap_u64, a3]
theorem const_at (L : List Value) (k : Nat) (hk : k < 24) (h : L = constL.map fun (n : Nat) => .int .u64 (n : Int)) (hl : k < L.length) : L[k] = .int .u64 (constN k : Nat) := by
  subst h
  have h24 : k < constL.length := hk
  rw [List.getElem_map]
  unfold constN
  rw [List.getD_eq_getElem?_getD, List.getElem?_eq_getElem h24]
  rfl
set_option maxRecDepth 20000 in
set_option maxHeartbeats 1000000 in
theorem constant13_any (r : Int) (w : World) : Calls Star.prog 52 #[.int .i64 r] w fun e w' => e = .returned (.int .u64 (constI r : Nat)) ∧ Below w.heap.size w w' := by
  by_cases h : 0 ≤ r ∧ r < 24
  · obtain ⟨k, rfl⟩ := Int.eq_ofNat_of_zero_le h.1
    have hk : k < 24 := by omega
    have h1 : ¬ (23 : Int) < (k : Int) := by omega
    rw [constI_nat hk]
    have hk0 : ¬ (k : Int) < 0 := by omega
    go_enter Star.func52, Star.ntmps52
    go_wp2
    go_ret
    exact ⟨congrArg Ending.returned (const_at _ k hk rfl _), (Below.refl _ w).alloc (Nat.le_refl _) _⟩
  · rw [constI_out h]
    by_cases h0 : r < 0
    · clear h
      go_enter Star.func52, Star.ntmps52
      go_wp2
      go_ret
      exact ⟨rfl, Below.refl _ _⟩
    · have h24 : 23 < r := by omega
      clear h
      go_enter Star.func52, Star.ntmps52
      go_wp2
      go_ret
      exact ⟨rfl, Below.refl _ _⟩
structure QS (w W : World) (n : Nat) (u : Array Value) (k : Nat) (c : Array Value) : Prop where
  below : Below w.heap.size w W
  a : Hold W w.heap.size 25 u
  r : Hold W (w.heap.size + 1) 25 (uTab 25 fun _ => 0)
  c : Hold W n k c
  far : w.heap.size + 1 < n
theorem QS.call {w W W' : World} {n k : Nat} {u c : Array Value} (h : QS w W n u k c) (hb : Below W.heap.size W W') : QS w W' n u k c := ⟨h.below.trans (hb.mono h.below.size), h.a.call hb, h.r.call hb, h.c.call hb, h.far⟩
theorem QS.drew {w W : World} {n k : Nat} {u c : Array Value} (h : QS w W n u k c) : QS w W.drew n u k c := h.call ((Below.refl _ _).drewN 1)
theorem QS.setA {w W : World} {n k : Nat} {u c : Array Value} (h : QS w W n u k c) (u' : Array Value) (hu : u'.size = 25) : QS w (W.setRow w.heap.size u') n u' k c :=
  ⟨below_setRow h.below (by omega) _, h.a.set _ hu, h.r.other _ (by omega), h.c.other _ (by have := h.far; omega), h.far⟩
theorem QS.setC {w W : World} {n k : Nat} {u c : Array Value} (h : QS w W n u k c) (c' : Array Value) (hc : c'.size = k) : QS w (W.setRow n c') n u k c' :=
  ⟨below_setRow h.below (by have := h.far; omega) _, h.a.other _ (by have := h.far; omega), h.r.other _ (by have := h.far; omega), h.c.set _ hc, h.far⟩
theorem QS.new (w : World) (u c : Array Value) (k : Nat) (T1 T2 T3 : TypeId) (hu : u.size = 25) (hc : c.size = k) : QS w (((w.alloc (.cells u T1)).alloc (.cells (uTab 25 fun _ => 0) T2)).alloc (.cells c T3)) (w.heap.size + 1 + 1) u k c :=
  ⟨((Below.refl _ w).alloc (Nat.le_refl _) _).alloc (by simp) _ |>.alloc (by simp; omega) _, ((Hold.new w _ _ 25 hu).past _).past _, (Hold.new1 w _ _ _ 25 (uTab_size _ _)).past _, Hold.new2 w _ _ _ _ k hc, by omega⟩
theorem next25 (k c : Nat) (ci : Int) (h : k < 25) (hc : c < 25) (hi : ci = (c : Nat)) : ∃ p : Nat, p = (k + c) % 5 ∧ ((k : Int) + ci) % 5 = (p : Int) ∧ ((k : Int) + ci).tmod 5 = (p : Int) ∧ IntKind.i64.wrap ((k : Int) + ci) = (k : Int) + ci ∧ (p : Int) < 5 ∧ p < 5 := by
  subst hi
  refine ⟨_, rfl, by omega, by rw [Int.tmod_eq_emod_of_nonneg (by omega)]; omega, by rw [IntKind.wrap_i64]; omega, by omega, by omega⟩
set_option maxRecDepth 100000 in
set_option maxHeartbeats 1000000 in
theorem theta13_any (f : Nat → Nat) (hf : ∀ i, f i < 18446744073709551616) (w : World) : Calls Star.prog 51 #[.agg (uTab 25 f)] w fun e w' => e = .returned (.agg (uTab 25 (thetaN f))) ∧ Below w.heap.size w w' := by
  go_enter Star.func51, Star.ntmps51
  go_wp2
  obtain ⟨W0, hW0⟩ : ∃ W0, W0 = ((w.alloc (.cells (uTab 25 f) 24)).alloc (.cells (uTab 25 fun _ => 0) 24)).alloc (.cells (uTab 5 fun _ => 0) 93) := ⟨_, rfl⟩
  have F0 : Hid (QS w W0 (w.heap.size + 1 + 1) (uTab 25 f) 5 (uTab 5 (colUp f 0))) := by rw [hW0]; exact QS.new w _ _ _ _ _ _ (uTab_size _ _) (uTab_size _ _)
  rw [← hW0]
  clear hW0
  go_loopg [4] 25 (fun g i wr => ∃ k : Nat, k + g = 25 ∧ i = .int .i64 (k : Nat) ∧ Hid (QS w wr (w.heap.size + 1 + 1) (uTab 25 f) 5 (uTab 5 (colUp f k))))
  case atStart => exact ⟨0, by omega, rfl, F0⟩
  case round =>
    clear F0
    obtain ⟨k, hk, rfl, HF⟩ := hrel
    by_cases h25 : k < 25
    · obtain ⟨g, rfl⟩ : ∃ g, gk = g + 1 := ⟨gk - 1, by omega⟩
      have F1 := HF.out.drew
      clear HF
      obtain ⟨j, hj⟩ : ∃ j, j = k % 5 := ⟨_, rfl⟩
      have hj2 : (k : Int) % 5 = (j : Int) := by omega
      have hj3 : (k : Int).tmod 5 = (j : Int) := by rw [Int.tmod_eq_emod_of_nonneg (by omega)]; exact hj2
      have hj5 : j < 5 := by omega
      have HS := Lib.hid (uTab_set 5 (colUp f k) (colUp f (k + 1)) j (bits BinOp.xor IntKind.u64 (colUp f k j : Nat) (f k : Nat)) (by
        rw [bits_xor _ _ (colUp_lt hf _ _) (hf _)]
        show _ = ((if j = k % 5 then _ else _ : Nat) : Int)
        rw [if_pos hj]) fun i hi hn => if_neg (by omega))
      have q1 : wr.drew.cell? ⟨w.heap.size, k, none⟩ = some (.int .u64 (f k : Nat)) := F1.a.cell (uTab_at 25 _ k h25)
      have q2 : wr.drew.cell? ⟨w.heap.size + 1 + 1, j, none⟩ = some (.int .u64 (colUp f k j : Nat)) := F1.c.cell (uTab_at 5 _ j hj5)
      have q4 := F1.c.frozen j
      have q5 := F1.c.setCell j
      have R := Lib.hid (F1.setC ((uTab 5 (colUp f k)).setIfInBounds j (.int .u64 (bits BinOp.xor IntKind.u64 (colUp f k j : Nat) (f k : Nat)))) (by rw [Array.size_setIfInBounds, uTab_size]))
      rw [HS.out] at R
      have i1 : (k : Int) < 25 := by omega
      have i2 : (j : Int) < 5 := by omega
      clear hj F1
      go_wp2
      refine wp_region_still_tail 11 (by kernel_rfl) (by kernel_rfl) ?_
      change wpStill _ _ wr.drew (fun a' => wpList _ _ _ _ a' wr.drew) _ _
      generalize wr.drew = W3 at *
      simp only [List.take_succ_cons, List.take_zero, List.drop_succ_cons, List.drop_zero]
      repeat still_step
      refine wpStill_nil ?_
      go_wp2
      rw [HS.out]
      go_roundg g
      case measure => omega
      case rel => exact ⟨k + 1, by omega, by go_num, R⟩
    · obtain rfl : k = 25 := by omega
      rw [uTab_congr (colUp_full f)] at HF
      have hcl := colN_lt hf
      have HT : Hid (∀ i, thetaN f i = f i ^^^ (colN f ((i + 4) % 5) ^^^ rl (colN f ((i + 1) % 5)) 1)) := fun i => by
        show f i ^^^ (colN f ((i % 5 + 4) % 5) ^^^ rl (colN f ((i % 5 + 1) % 5)) 1) = _
        rw [show (i % 5 + 4) % 5 = (i + 4) % 5 by omega, show (i % 5 + 1) % 5 = (i + 1) % 5 by omega]
      generalize colN f = c at *
      have F0 : Hid (QS w wr (w.heap.size + 1 + 1) (uTab 25 (upTo25 (thetaN f) f 0)) 5 (uTab 5 c)) := by rw [upTo25_zero]; exact HF
      clear HF
      go_wp2
      go_loopg [5] 25 (fun g i wr => ∃ k : Nat, k + g = 25 ∧ i = .int .i64 (k : Nat) ∧ Hid (QS w wr (w.heap.size + 1 + 1) (uTab 25 (upTo25 (thetaN f) f k)) 5 (uTab 5 c)))
      case atStart => exact ⟨0, by omega, rfl, F0⟩
      case round =>
        clear F0
        obtain ⟨k, hk, rfl, HF⟩ := hrel
        by_cases h25 : k < 25
        · obtain ⟨g, rfl⟩ : ∃ g, gk = g + 1 := ⟨gk - 1, by omega⟩
          have F1 := HF.out.drew
          clear HF
          obtain ⟨p, hp, p2, p3, p4, p5, p6⟩ := next25 k 4 4 h25 (by omega) rfl
          obtain ⟨q, hq, q2, q3, q4, q5, q6⟩ := next25 k 1 1 h25 (by omega) rfl
          have C1 := fun W => left_any (c q) 1 (hcl _) (by omega) W
          have rl1 := rl_lt 1 (hcl q)
          have HV : Hid (bits BinOp.xor IntKind.u64 (bits BinOp.xor IntKind.u64 (f k : Nat) (c p : Nat)) (rl (c q) 1 : Nat) = ((thetaN f k : Nat) : Int)) := by
            unfold Hid
            rw [bits_xor _ _ (hf _) (hcl _), bits_xor _ _ (xor64 (hf _) (hcl _)) rl1, HT.out, Nat.xor_assoc, hp, hq]
          have c1 : wr.drew.cell? ⟨w.heap.size, k, none⟩ = some (.int .u64 (f k : Nat)) := by rw [F1.a.cell (uTab_at 25 _ k h25), upTo25_here]
          have c2 : wr.drew.cell? ⟨w.heap.size + 1 + 1, p, none⟩ = some (.int .u64 (c p : Nat)) := F1.c.cell (uTab_at 5 _ p p6)
          have c3 : wr.drew.cell? ⟨w.heap.size + 1 + 1, q, none⟩ = some (.int .u64 (c q : Nat)) := F1.c.cell (uTab_at 5 _ q q6)
          have c4 := F1.a.frozen k
          have c5 := F1.a.setCell k
          have HS := Lib.hid (upTo25_step (thetaN f) f k _ HV.out)
          have R := Lib.hid (F1.setA ((uTab 25 (upTo25 (thetaN f) f k)).setIfInBounds k (.int .u64 (bits BinOp.xor IntKind.u64 (bits BinOp.xor IntKind.u64 (f k : Nat) (c p : Nat)) (rl (c q) 1 : Nat)))) (by rw [Array.size_setIfInBounds, uTab_size]))
          rw [HS.out] at R
          have i1 : (k : Int) < 25 := by omega
          clear hp hq F1 HV
          go_wp2
          refine wp_region_still_tail 18 (by kernel_rfl) (by kernel_rfl) ?_
          change wpStill _ _ wr.drew (fun a' => wpList _ _ _ _ a' wr.drew) _ _
          generalize wr.drew = W3 at *
          simp only [List.take_succ_cons, List.take_zero, List.drop_succ_cons, List.drop_zero]
          repeat still_step
          still_call (still_of (C1 _))
          repeat still_step
          refine wpStill_nil ?_
          go_wp2
          rw [HS.out]
          go_roundg g
          case measure => omega
          case rel => exact ⟨k + 1, by omega, by go_num, R⟩
        · obtain rfl : k = 25 := by omega
          rw [upTo25_full] at HF
          have F1 := HF.out
          have q1 : (loadRow 24 (.pointer (some ⟨w.heap.size, 0, none⟩))).run Star.prog wr = .ok (.agg (uTab 25 (thetaN f))) wr := F1.a.load Star.underlying24 rfl (by kernel_rfl)
          have q2 := F1.r.ok
          go_wp2
          refine row_ret (P := Star.prog) (n := w.heap.size + 1) (p := 2) (k := 25) (c := uTab 25 (thetaN f)) rfl rfl (F1.r.set _ (uTab_size _ _)).ok (F1.r.set _ (uTab_size _ _)).at' Star.underlying24 rfl (by kernel_rfl) rfl ⟨rfl, below_setRow F1.below (by omega) _⟩
set_option maxRecDepth 100000 in
set_option maxHeartbeats 1000000 in
theorem rho13_any (f : Nat → Nat) (hf : ∀ i, f i < 18446744073709551616) (w : World) : Calls Star.prog 50 #[.agg (uTab 25 f)] w fun e w' => e = .returned (.agg (uTab 25 (rhoN f))) ∧ Below w.heap.size w w' := by
  go_enter Star.func50, Star.ntmps50
  go_wp2_with fail
  refine (refOffsets_any _).mono ?_
  rintro e w1 ⟨rfl, hb1⟩
  have hA : Hold w1 w.heap.size 25 (uTab 25 f) := ((Hold.new w (uTab 25 f) 24 25 (uTab_size _ _)).past _).call hb1
  have hR : Hold w1 (w.heap.size + 1) 25 (uTab 25 fun _ => 0) := (Hold.new1 w _ (uTab 25 fun _ => 0) 24 25 (uTab_size _ _)).call hb1
  have hB : Below w.heap.size w w1 := (((Below.refl _ w).alloc (Nat.le_refl _) _).alloc (by simp) _).trans (hb1.mono (by simp; omega))
  have hlt := hR.lt
  clear hb1
  go_wp2
  obtain ⟨m, hm⟩ : ∃ m, m = w1.heap.size := ⟨_, rfl⟩
  obtain ⟨W0, hW0⟩ : ∃ W0, W0 = w1.alloc (.cells (arr 25 fun i => (offN i : Nat)) 90) := ⟨_, rfl⟩
  have F0 : Hid (QS w W0 m (uTab 25 (upTo25 (rhoN f) f 0)) 25 (arr 25 fun i => (offN i : Nat))) := by
    rw [upTo25_zero, hW0, hm]
    exact ⟨hB.alloc (by omega) _, hA.past _, hR.past _, Hold.new _ _ _ _ (arr_size _ _), hlt⟩
  rw [← hW0, ← hm]
  clear hW0 hm hA hR hB hlt
  go_loopg [4] 25 (fun g i wr => ∃ k : Nat, k + g = 25 ∧ i = .int .i64 (k : Nat) ∧ Hid (QS w wr m (uTab 25 (upTo25 (rhoN f) f k)) 25 (arr 25 fun i => (offN i : Nat))))
  case atStart => exact ⟨0, by omega, rfl, F0⟩
  case round =>
    clear F0
    obtain ⟨k, hk, rfl, HF⟩ := hrel
    by_cases h25 : k < 25
    · obtain ⟨g, rfl⟩ : ∃ g, gk = g + 1 := ⟨gk - 1, by omega⟩
      have F1 := HF.out.drew
      clear HF
      have C1 := fun W => left_any (f k) (offN k) (hf _) (offN_lt k) W
      have c1 : wr.drew.cell? ⟨w.heap.size, k, none⟩ = some (.int .u64 (f k : Nat)) := by rw [F1.a.cell (uTab_at 25 _ k h25), upTo25_here]
      have c2 : wr.drew.cell? ⟨m, k, none⟩ = some (.int .i64 (offN k : Nat)) := F1.c.cell (arr_at 25 _ k h25)
      have c4 := F1.a.frozen k
      have c5 := F1.a.setCell k
      have HS := Lib.hid (upTo25_step (rhoN f) f k ((rl (f k) (offN k) : Nat) : Int) rfl)
      have R := Lib.hid (F1.setA ((uTab 25 (upTo25 (rhoN f) f k)).setIfInBounds k (.int .u64 ((rl (f k) (offN k) : Nat) : Int))) (by rw [Array.size_setIfInBounds, uTab_size]))
      rw [HS.out] at R
      have i1 : (k : Int) < 25 := by omega
      clear F1
      go_wp2
      refine wp_region_still_tail 9 (by kernel_rfl) (by kernel_rfl) ?_
      change wpStill _ _ wr.drew (fun a' => wpList _ _ _ _ a' wr.drew) _ _
      generalize wr.drew = W3 at *
      simp only [List.take_succ_cons, List.take_zero, List.drop_succ_cons, List.drop_zero]
      repeat still_step
      still_call (still_of (C1 _))
      repeat still_step
      refine wpStill_nil ?_
      go_wp2
      rw [HS.out]
      go_roundg g
      case measure => omega
      case rel => exact ⟨k + 1, by omega, by go_num, R⟩
    · obtain rfl : k = 25 := by omega
      rw [upTo25_full] at HF
      have F1 := HF.out
      have q1 : (loadRow 24 (.pointer (some ⟨w.heap.size, 0, none⟩))).run Star.prog wr = .ok (.agg (uTab 25 (rhoN f))) wr := F1.a.load Star.underlying24 rfl (by kernel_rfl)
      have q2 := F1.r.ok
      go_wp2
      refine row_ret (P := Star.prog) (n := w.heap.size + 1) (p := 2) (k := 25) (c := uTab 25 (rhoN f)) rfl rfl (F1.r.set _ (uTab_size _ _)).ok (F1.r.set _ (uTab_size _ _)).at' Star.underlying24 rfl (by kernel_rfl) rfl ⟨rfl, below_setRow F1.below (by omega) _⟩
set_option maxRecDepth 100000 in
set_option maxHeartbeats 1000000 in
theorem pi13_any (f : Nat → Nat) (w : World) : Calls Star.prog 49 #[.agg (uTab 25 f)] w fun e w' => e = .returned (.agg (uTab 25 (piN f))) ∧ Below w.heap.size w w' := by
  have hl2 := load2u w f 24
  go_enter Star.func49, Star.ntmps49
  go_wp2_with fail
  refine (refPi_any f _).mono ?_
  rintro e w1 ⟨rfl, hb1⟩
  have hB1 : Below w.heap.size w w1 := ((((Below.refl _ w).alloc (Nat.le_refl _) _).alloc (by simp) _).trans (hb1.mono (by simp; omega)))
  have hR1 : Hold w1 (w.heap.size + 1) 25 (uTab 25 fun _ => 0) := (Hold.new1 w _ (uTab 25 fun _ => 0) 24 25 (uTab_size _ _)).call hb1
  clear hb1 hl2
  have q1 := hR1.ok
  go_wp2_with fail
  refine row_ret (P := Star.prog) (n := w.heap.size + 1) (p := 2) (k := 25) (c := uTab 25 (piN f)) rfl rfl (hR1.set _ (uTab_size _ _)).ok (hR1.set _ (uTab_size _ _)).at' Star.underlying24 rfl (by kernel_rfl) rfl ⟨rfl, below_setRow hB1 (by omega) _⟩
end Go.Proofs.YtpmfngbdfmodmaaDoor.L64
end

section
namespace Go.Proofs.YtpmfngbdfmodmaaDoor.L64
open Go.RowKit Rw
set_option linter.unusedVariables false
set_option linter.unusedSimpArgs false
theorem ones_xor_and {x y : Nat} (hx : x < 18446744073709551616) (hy : y < 18446744073709551616) : (18446744073709551615 ^^^ x) &&& y = andNotN y x := by
  apply eq_of_bits (n := 64) (by rw [Nat.and_comm]; exact and64 _ hy) (andNotN_lt _ hy)
  intro j hj
  have := ones_bit 64 j hj
  rw [show 2 ^ 64 - 1 = 18446744073709551615 from rfl] at this
  rw [Nat.testBit_and, Nat.testBit_xor, this, andNotN_bit hx j hj]
  cases x.testBit j <;> cases y.testBit j <;> rfl
theorem chi13_val (a b c : Nat) (ha : a < 18446744073709551616) (hb : b < 18446744073709551616) (hc : c < 18446744073709551616) : bits BinOp.xor IntKind.u64 (a : Int) (bits BinOp.and IntKind.u64 (bits BinOp.xor IntKind.u64 18446744073709551615 (b : Int)) (c : Int)) = ((a ^^^ andNotN c b : Nat) : Int) := by
  have e1 : bits BinOp.xor IntKind.u64 18446744073709551615 (b : Int) = ((18446744073709551615 ^^^ b : Nat) : Int) := u64_xor_nat 18446744073709551615 b (by omega) hb
  rw [e1, u64_and_nat _ _ (xor64 (by omega) hb) hc, ones_xor_and hb hc, bits_xor _ _ ha (andNotN_lt _ hc)]
set_option maxRecDepth 100000 in
set_option maxHeartbeats 1000000 in
theorem chi13_any (f : Nat → Nat) (hf : ∀ i, f i < 18446744073709551616) (w : World) : Calls Star.prog 48 #[.agg (uTab 25 f)] w fun e w' => e = .returned (.agg (uTab 25 (chiN f))) ∧ Below w.heap.size w w' := by
  go_enter Star.func48, Star.ntmps48
  go_wp2
  obtain ⟨W0, hW0⟩ : ∃ W0, W0 = ((w.alloc (.cells (uTab 25 f) 24)).alloc (.cells (uTab 25 fun _ => 0) 24)).alloc (.cells (uTab 25 fun _ => 0) 24) := ⟨_, rfl⟩
  have F0 : Hid (QS w W0 (w.heap.size + 1 + 1) (uTab 25 f) 25 (uTab 25 (upTo25 (chiN f) (fun _ => 0) 0))) := by rw [hW0, upTo25_zero]; exact QS.new w _ _ _ _ _ _ (uTab_size _ _) (uTab_size _ _)
  rw [← hW0]
  clear hW0
  go_loopg [4, 5] 25 (fun g i yv wr => ∃ k : Nat, k + g = 25 ∧ i = .int .i64 (k : Nat) ∧ Hid (QS w wr (w.heap.size + 1 + 1) (uTab 25 f) 25 (uTab 25 (upTo25 (chiN f) (fun _ => 0) k))))
  case atStart => exact ⟨0, by omega, rfl, F0⟩
  case round =>
    clear F0
    obtain ⟨k, hk, rfl, HF⟩ := hrel
    by_cases h25 : k < 25
    · obtain ⟨g, rfl⟩ : ∃ g, gk = g + 1 := ⟨gk - 1, by omega⟩
      have F1 := HF.out.drew
      clear HF
      obtain ⟨p, hp, p2, p3, p4, p5, p6⟩ := next25 k 1 1 h25 (by omega) rfl
      obtain ⟨q, hq, q2, q3, q4, q5, q6⟩ := next25 k 2 2 h25 (by omega) rfl
      obtain ⟨y, hy⟩ : ∃ y, y = k / 5 := ⟨_, rfl⟩
      have hy3 : (k : Int).tdiv 5 = (y : Int) := by rw [Int.tdiv_eq_ediv_of_nonneg (by omega)]; omega
      have hy2 : (k : Int) / 5 = (y : Int) := by omega
      have hy5 : y < 5 := by omega
      obtain ⟨z, hz⟩ : ∃ z, z = y * 5 := ⟨_, rfl⟩
      have hz2 : (y : Int) * 5 = (z : Int) := by omega
      have hz3 : IntKind.i64.wrap (z : Int) = (z : Int) := by rw [IntKind.wrap_i64]; omega
      obtain ⟨a, ha⟩ : ∃ a, a = z + p := ⟨_, rfl⟩
      obtain ⟨b, hb⟩ : ∃ b, b = z + q := ⟨_, rfl⟩
      have ha2 : (z : Int) + (p : Int) = (a : Int) := by omega
      have hb2 : (z : Int) + (q : Int) = (b : Int) := by omega
      have ha3 : IntKind.i64.wrap (a : Int) = (a : Int) := by rw [IntKind.wrap_i64]; omega
      have hb3 : IntKind.i64.wrap (b : Int) = (b : Int) := by rw [IntKind.wrap_i64]; omega
      have ha25 : a < 25 := by omega
      have hb25 : b < 25 := by omega
      have ha5 : (a : Int) < 25 := by omega
      have hb5 : (b : Int) < 25 := by omega
      have HV : Hid (bits BinOp.xor IntKind.u64 (f k : Nat) (bits BinOp.and IntKind.u64 (bits BinOp.xor IntKind.u64 18446744073709551615 (f a : Nat)) (f b : Nat)) = ((chiN f k : Nat) : Int)) := by
        unfold Hid
        rw [chi13_val _ _ _ (hf _) (hf _) (hf _)]
        unfold chiN placeN
        rw [show (k % 5 + 2) % 5 + 5 * (k / 5 % 5) = b by omega, show (k % 5 + 1) % 5 + 5 * (k / 5 % 5) = a by omega]
      have c1 : wr.drew.cell? ⟨w.heap.size, k, none⟩ = some (.int .u64 (f k : Nat)) := F1.a.cell (uTab_at 25 _ k h25)
      have c2 : wr.drew.cell? ⟨w.heap.size, a, none⟩ = some (.int .u64 (f a : Nat)) := F1.a.cell (uTab_at 25 _ a ha25)
      have c3 : wr.drew.cell? ⟨w.heap.size, b, none⟩ = some (.int .u64 (f b : Nat)) := F1.a.cell (uTab_at 25 _ b hb25)
      have c6 : wr.drew.cell? ⟨w.heap.size + 1 + 1, k, none⟩ = some (.int .u64 (upTo25 (chiN f) (fun _ => 0) k k : Nat)) := F1.c.cell (uTab_at 25 _ k h25)
      have c4 := F1.c.frozen k
      have c5 := F1.c.setCell k
      have HS := Lib.hid (upTo25_step (chiN f) (fun _ => 0) k _ HV.out)
      have R := Lib.hid (F1.setC ((uTab 25 (upTo25 (chiN f) (fun _ => 0) k)).setIfInBounds k (.int .u64 (bits BinOp.xor IntKind.u64 (f k : Nat) (bits BinOp.and IntKind.u64 (bits BinOp.xor IntKind.u64 18446744073709551615 (f a : Nat)) (f b : Nat))))) (by rw [Array.size_setIfInBounds, uTab_size]))
      rw [HS.out] at R
      have i1 : (k : Int) < 25 := by omega
      clear hp hq hy hz ha hb F1 HV
      go_wp2
      refine wp_region_still_tail 22 (by kernel_rfl) (by kernel_rfl) ?_
      change wpStill _ _ wr.drew (fun a' => wpList _ _ _ _ a' wr.drew) _ _
      generalize wr.drew = W3 at *
      simp only [List.take_succ_cons, List.take_zero, List.drop_succ_cons, List.drop_zero]
      repeat still_step
      refine wpStill_nil ?_
      go_wp2
      rw [HS.out]
      go_roundg g
      case measure => omega
      case rel => exact ⟨k + 1, by omega, by go_num, R⟩
    · obtain rfl : k = 25 := by omega
      rw [upTo25_full] at HF
      have F1 := HF.out
      have q1 : (loadRow 24 (.pointer (some ⟨w.heap.size + 1 + 1, 0, none⟩))).run Star.prog wr = .ok (.agg (uTab 25 (chiN f))) wr := F1.c.load Star.underlying24 rfl (by kernel_rfl)
      have q2 := F1.r.ok
      go_wp2
      refine row_ret (P := Star.prog) (n := w.heap.size + 1) (p := 2) (k := 25) (c := uTab 25 (chiN f)) rfl rfl (F1.r.set _ (uTab_size _ _)).ok (F1.r.set _ (uTab_size _ _)).at' Star.underlying24 rfl (by kernel_rfl) rfl ⟨rfl, below_setRow F1.below (by omega) _⟩
structure DS (w W : World) (u : Array Value) : Prop where
  below : Below w.heap.size w W
  a : Hold W w.heap.size 25 u
  r : Hold W (w.heap.size + 1) 25 (uTab 25 fun _ => 0)
theorem DS.call {w W W' : World} {u : Array Value} (h : DS w W u) (hb : Below W.heap.size W W') : DS w W' u := ⟨h.below.trans (hb.mono h.below.size), h.a.call hb, h.r.call hb⟩
theorem DS.drew {w W : World} {u : Array Value} (h : DS w W u) : DS w W.drew u := h.call ((Below.refl _ _).drewN 1)
theorem DS.setA {w W : World} {u : Array Value} (h : DS w W u) (u' : Array Value) (hu : u'.size = 25) : DS w (W.setRow w.heap.size u') u' := ⟨below_setRow h.below (by omega) _, h.a.set _ hu, h.r.other _ (by omega)⟩
theorem DS.new (w : World) (u : Array Value) (T1 T2 : TypeId) (hu : u.size = 25) : DS w ((w.alloc (.cells u T1)).alloc (.cells (uTab 25 fun _ => 0) T2)) u :=
  ⟨((Below.refl _ w).alloc (Nat.le_refl _) _).alloc (by simp) _, (Hold.new w _ _ 25 hu).past _, Hold.new1 w _ _ _ 25 (uTab_size _ _)⟩
set_option maxRecDepth 100000 in
set_option maxHeartbeats 1000000 in
theorem refRound13_any (f : Nat → Nat) (hf : ∀ i, f i < 18446744073709551616) (r : Int) (w : World) : Calls Star.prog 41 #[.agg (uTab 25 f), .int .i64 r] w fun e w' => e = .returned (.agg (uTab 25 (kRound f r))) ∧ Below w.heap.size w w' := by
  have l1 := thetaN_lt hf
  have l2 := rhoN_lt l1
  have l3 := piN_lt l2
  have l4 := chiN_lt l3
  have hl2 := load2u w f 24
  have D0 := Lib.hid (DS.new w (uTab 25 f) 24 24 (uTab_size _ _))
  go_enter Star.func41, Star.ntmps41
  go_wp2_with fail
  refine (theta13_any f hf _).mono ?_
  rintro e w1 ⟨rfl, hb1⟩
  have D1 := Lib.hid (D0.out.call hb1)
  clear hb1 hl2 D0
  go_wp2_with fail
  refine (rho13_any (thetaN f) l1 _).mono ?_
  rintro e w2 ⟨rfl, hb2⟩
  have D2 := Lib.hid (D1.out.call hb2)
  clear hb2 D1
  go_wp2_with fail
  refine (pi13_any (rhoN (thetaN f)) _).mono ?_
  rintro e w3 ⟨rfl, hb3⟩
  have D3 := Lib.hid (D2.out.call hb3)
  clear hb3 D2
  go_wp2_with fail
  refine (chi13_any (piN (rhoN (thetaN f))) l3 _).mono ?_
  rintro e w4 ⟨rfl, hb4⟩
  have D4 := D3.out.call hb4
  clear hb4 D3
  have HE : Hid (kRound f r = iotaN (chiN (piN (rhoN (thetaN f)))) r) := rfl
  generalize chiN (piN (rhoN (thetaN f))) = v at *
  have q0 := D4.a.ok
  have D5 := Lib.hid (D4.setA (uTab 25 v) (uTab_size _ _))
  clear D4 l1 l2 l3
  go_wp2
  generalize w4.setRow w.heap.size (uTab 25 v) = W5 at *
  clear q0
  have C := fun W => constant13_any r W
  have HS : Hid (∀ x : Int, x = ((v 0 ^^^ constI r : Nat) : Int) → (uTab 25 v).setIfInBounds 0 (.int .u64 x) = uTab 25 (iotaN v r)) := fun x hx => uTab_set 25 _ _ 0 x (by rw [hx]; rfl) fun i _ hn => if_neg hn
  have hv0 := l4 0
  have hcl := constI_lt r
  generalize constI r = c at *
  have HA := Lib.hid D5.out.drew
  clear D5
  have q1 : W5.drew.cell? ⟨w.heap.size, 0, none⟩ = some (.int .u64 (v 0 : Nat)) := HA.out.a.cell (uTab_at 25 _ 0 (by omega))
  go_region_law (first
    | (go_simp; go_at_call 52; (with_reducible refine (C _).mono ?_); rintro e u1 ⟨rfl, hb1⟩
       have HA1 := Lib.hid (HA.out.call hb1)
       have q2 : u1.cell? ⟨w.heap.size, 0, none⟩ = some (.int .u64 (v 0 : Nat)) := HA1.out.a.cell (uTab_at 25 _ 0 (by omega))
       have q4 := HA1.out.a.frozen 0
       have q5 := HA1.out.a.setCell 0))
  all_goals
    rw [HS.out _ (bits_xor _ _ hv0 hcl)]
    have D9 := HA1.out.setA (uTab 25 (iotaN v r)) (uTab_size _ _)
    clear q1 q2 q4 q5 HA HA1 hb1 C HS
    generalize u1.setRow w.heap.size (uTab 25 (iotaN v r)) = W9 at *
    have p1 := D9.a.load (T := 24) Star.underlying24 rfl (by kernel_rfl)
    have p2 := D9.r.ok
    go_wp2
    refine row_ret (P := Star.prog) (n := w.heap.size + 1) (p := 4) (k := 25) (c := uTab 25 (iotaN v r)) rfl rfl (D9.r.set _ (uTab_size _ _)).ok (D9.r.set _ (uTab_size _ _)).at' Star.underlying24 rfl (by kernel_rfl) rfl ⟨by rw [HE.out], below_setRow D9.below (by omega) _⟩
theorem held_run (f : Nat → Nat) (a b : Int) (k : Nat) (hk : k < 24) : kIt f (held a) (min (k + 1) (held b) - held a) = if a ≤ (k : Int) ∧ (k : Int) < b then kRound (kIt f (held a) (min k (held b) - held a)) (k : Nat) else kIt f (held a) (min k (held b) - held a) := by
  by_cases h : a ≤ (k : Int) ∧ (k : Int) < b
  · rw [if_pos h]
    have e1 : held a ≤ k := by unfold held; omega
    have e2 : k + 1 ≤ held b := by unfold held; omega
    rw [show min (k + 1) (held b) - held a = (min k (held b) - held a) + 1 by omega]
    show kRound _ ((held a + (min k (held b) - held a) : Nat) : Int) = _
    rw [show held a + (min k (held b) - held a) = k by omega]
  · rw [if_neg h]
    have : min (k + 1) (held b) - held a = min k (held b) - held a := by
      rcases Decidable.not_and_iff_or_not.1 h with h1 | h1
      · have : k + 1 ≤ held a := by unfold held; omega
        omega
      · have : held b ≤ k := by unfold held; omega
        omega
    rw [this]
set_option maxRecDepth 100000 in
set_option maxHeartbeats 1000000 in
theorem refRounds13_any (f : Nat → Nat) (hf : ∀ i, f i < 18446744073709551616) (a b : Int) (w : World) : Calls Star.prog 34 #[.agg (uTab 25 f), .int .i64 a, .int .i64 b] w fun e w' => e = .returned (.agg (uTab 25 (kIt f (held a) (held b - held a)))) ∧ Below w.heap.size w w' := by
  have D0 : Hid (DS w ((w.alloc (.cells (uTab 25 f) 24)).alloc (.cells (uTab 25 fun _ => 0) 24)) (uTab 25 (kIt f (held a) (min 0 (held b) - held a)))) := by
    rw [Nat.zero_min, Nat.zero_sub]
    exact DS.new w (uTab 25 f) 24 24 (uTab_size _ _)
  have HE : Hid (min 24 (held b) - held a = held b - held a) := by have := held_le b; unfold Hid; omega
  have HR := Lib.hid (fun k hk => held_run f a b k hk)
  have hl := fun n => kIt_lt hf (held a) n
  go_enter Star.func34, Star.ntmps34
  go_wp2
  generalize (w.alloc (.cells (uTab 25 f) 24)).alloc (.cells (uTab 25 fun _ => 0) 24) = W0 at *
  go_loopg [7] 24 (fun g i wr => ∃ k : Nat, k + g = 24 ∧ i = .int .i64 (k : Nat) ∧ Hid (DS w wr (uTab 25 (kIt f (held a) (min k (held b) - held a)))))
  case atStart => exact ⟨0, by omega, rfl, D0⟩
  case round =>
    clear D0
    obtain ⟨k, hk, rfl, HF⟩ := hrel
    by_cases h24 : k < 24
    · obtain ⟨g, rfl⟩ : ∃ g, gk = g + 1 := ⟨gk - 1, by omega⟩
      have HK := Lib.hid (HR.out k h24)
      have hv := hl (min k (held b) - held a)
      generalize kIt f (held a) (min k (held b) - held a) = v at *
      by_cases hin : a ≤ (k : Int) ∧ (k : Int) < b
      · rw [if_pos hin] at HK
        obtain ⟨hin1, hin2⟩ := hin
        have F1 := HF.out
        have q1 : (loadRow 24 (.pointer (some ⟨w.heap.size, 0, none⟩))).run Star.prog wr = .ok (.agg (uTab 25 v)) wr := F1.a.load Star.underlying24 rfl (by kernel_rfl)
        have C1 : Hid (∀ W, Calls Star.prog 41 #[.agg (uTab 25 v), .int .i64 (k : Nat)] W fun e w' => e = .returned (.agg (uTab 25 (kIt f (held a) (min (k + 1) (held b) - held a)))) ∧ Below W.heap.size W w') := fun W => by
          rw [HK.out]
          exact refRound13_any v hv (k : Nat) W
        clear HF HR HE hl HK
        obtain ⟨v2, hv2⟩ : ∃ v2, v2 = kIt f (held a) (min (k + 1) (held b) - held a) := ⟨_, rfl⟩
        rw [← hv2] at C1
        have HV2 := Lib.hid hv2
        clear hv2
        go_wp2_with fail
        refine (C1.out _).mono ?_
        rintro e w5 ⟨rfl, hb5⟩
        have F2 := F1.call hb5
        have q2 := F2.a.ok
        have R := Lib.hid (F2.setA (uTab 25 v2) (uTab_size _ _))
        clear F1 F2 hb5 q1 C1
        go_wp2_with fail
        go_roundg g
        case measure => omega
        case rel => exact ⟨k + 1, by omega, by go_num, by rw [← HV2.out]; exact R⟩
      · rw [if_neg hin] at HK
        rw [← HK.out] at HF
        clear HR HE hl
        by_cases hin1 : a ≤ (k : Int)
        · have hin2 : ¬ (k : Int) < b := fun h => hin ⟨hin1, h⟩
          clear hin
          go_wp2
          go_roundg g
          case measure => omega
          case rel => exact ⟨k + 1, by omega, by go_num, HF⟩
        · clear hin
          go_wp2
          go_roundg g
          case measure => omega
          case rel => exact ⟨k + 1, by omega, by go_num, HF⟩
    · obtain rfl : k = 24 := by omega
      rw [HE.out] at HF
      have F1 := HF.out
      have q1 : (loadRow 24 (.pointer (some ⟨w.heap.size, 0, none⟩))).run Star.prog wr = .ok (.agg (uTab 25 (kIt f (held a) (held b - held a)))) wr := F1.a.load Star.underlying24 rfl (by kernel_rfl)
      have q2 := F1.r.ok
      go_wp2
      refine row_ret (P := Star.prog) (n := w.heap.size + 1) (p := 6) (k := 25) (c := uTab 25 (kIt f (held a) (held b - held a))) rfl rfl (F1.r.set _ (uTab_size _ _)).ok (F1.r.set _ (uTab_size _ _)).at' Star.underlying24 rfl (by kernel_rfl) rfl ⟨rfl, below_setRow F1.below (by omega) _⟩
set_option maxRecDepth 100000 in
set_option maxHeartbeats 1000000 in
theorem refF13_any (f : Nat → Nat) (hf : ∀ i, f i < 18446744073709551616) (w : World) : Calls Star.prog 24 #[.agg (uTab 25 f)] w fun e w' => e = .returned (.agg (uTab 25 (kIt f 0 24))) ∧ Below w.heap.size w w' := by
  have hl2 := load2u w f 24
  have C1 : Hid (∀ W, Calls Star.prog 34 #[.agg (uTab 25 f), .int .i64 0, .int .i64 24] W fun e w' => e = .returned (.agg (uTab 25 (kIt f 0 24))) ∧ Below W.heap.size W w') := fun W => refRounds13_any f hf 0 24 W
  go_enter Star.func24, Star.ntmps24
  go_wp2_with fail
  refine (C1.out _).mono ?_
  rintro e w1 ⟨rfl, hb1⟩
  have hB1 : Below w.heap.size w w1 := ((((Below.refl _ w).alloc (Nat.le_refl _) _).alloc (by simp) _).trans (hb1.mono (by simp; omega)))
  have hR1 : Hold w1 (w.heap.size + 1) 25 (uTab 25 fun _ => 0) := (Hold.new1 w _ (uTab 25 fun _ => 0) 24 25 (uTab_size _ _)).call hb1
  clear hb1 hl2
  have q1 := hR1.ok
  go_wp2_with fail
  refine row_ret (P := Star.prog) (n := w.heap.size + 1) (p := 2) (k := 25) (c := uTab 25 (kIt f 0 24)) rfl rfl (hR1.set _ (uTab_size _ _)).ok (hR1.set _ (uTab_size _ _)).at' Star.underlying24 rfl (by kernel_rfl) rfl ⟨rfl, below_setRow hB1 (by omega) _⟩
end Go.Proofs.YtpmfngbdfmodmaaDoor.L64
end

section
namespace Go.Proofs.YtpmfngbdfmodmaaDoor.Sg
open Go.RowKit L64 Rw Ln
set_option linter.unusedVariables false
set_option linter.unusedSimpArgs false
theorem run_append_noneC {P : Program} {w : World} (base : Nat) (t ty e : TypeId) (i : TypeInfo) (size : Nat) (ht : P.underlying t = some (.slice e)) (hi : P.info? e = some i)
    (v : Value) (n : Nat) (xs : List Value) (hown : w.ownsRow base e size v n xs) (c : Nat) :
    (Builtin.append_ #[t, t] ty #[v, .slice none 0 c]).run P w = .ok v w := by
  rcases hown.2 with ⟨rfl, rfl⟩ | ⟨g, cap, cur, rfl, _, _, hnc, _⟩
  · simp [Builtin.append_, run_underlying ht, sizeOf, typeInfo, hi, Builtin.lenOf, Builtin.firstCells]
  · simp [Builtin.append_, run_underlying ht, sizeOf, typeInfo, hi, Builtin.lenOf, Builtin.firstCells, hnc, storeCells]
theorem wpList_append_noneC {P : Program} {w : World} {ops : Array Oper} {rest : List Oper} {o : Oper} {a : Act} {Q : Exit → Act → World → Prop} (hgd : o.guard = none) (s x : Operand) (t : TypeId)
    (ho : o.op = .call { callee := .builtin .append, args := #[s, x], argTypes := #[t, t] })
    (base : Nat) (e : TypeId) (i : TypeInfo) (size : Nat) (ht : P.underlying t = some (.slice e)) (hi : P.info? e = some i)
    (v : Value) (n : Nat) (xs : List Value) (hs : a.eval s = v) (hown : w.ownsRow base e size v n xs) (c : Nat) (hx : a.eval x = .slice none 0 c)
    (h : wpList P ops Q rest (a.put o.dst v) w) : wpList P ops Q (o :: rest) a w := by
  refine wpList_plain hgd fun K hK => ?_
  have hrun := run_append_noneC (P := P) (w := w) base t o.type e i size ht hi v n xs hown c
  unfold Oper.wp
  simp [execOp, ho, resolve, invoke, builtin, hs, hx, hrun, Result.andThen]
  exact hK _ _ h
theorem append_anyB {P : Program} {w : World} {ops : Array Oper} {rest : List Oper} {o : Oper} {a : Act} {Q : Exit → Act → World → Prop} (hgd : o.guard = none) (s x : Operand) (t : TypeId)
    (ho : o.op = .call { callee := .builtin .append, args := #[s, x], argTypes := #[t, t] })
    (base : Nat) (e : TypeId) (i : TypeInfo) (ht : P.underlying t = some (.slice e)) (hi : P.info? e = some i) (hz : i.zero = some (.int .u8 0)) (hsize : i.size = 1) (hby : i.bytes = 1)
    (v : Value) (zs : List Nat) (hs : a.eval s = v) (hown : Row .u8 e base w v zs) (A : Option Addr) (c : Nat) (ys : List Nat) (hx : a.eval x = .slice A ys.length c) (hw : Words .u8 w A ys)
    (hlen : zs.length + ys.length ≤ 10000000) (hbase : base ≤ w.heap.size)
    (h : ∀ v' w', Row .u8 e base w' v' (zs ++ ys) → w.grownBy w' v.ownBlock → wpList P ops Q rest (a.put o.dst v') w') : wpList P ops Q (o :: rest) a w := by
  rcases A with _ | ad
  · obtain rfl : ys = [] := by
      rcases ys with _ | ⟨y, l⟩
      · rfl
      · obtain ⟨b, o', e', _⟩ := hw 0 (by simp); cases e'
    exact wpList_append_noneC hgd s x t ho base e i 1 ht hi v zs.length (cellsOf .u8 zs) hs hown c hx (h v w (by rw [List.append_nil]; exact hown) ⟨rfl, rfl, rfl, Nat.le_refl _, fun _ _ _ => rfl⟩)
  · exact wpList_append_own w hgd s x t ho base e i (.int .u8 0) 1 1 ht hi hz hsize hby rfl (by decide) v zs.length (cellsOf .u8 zs) hs hown ad ys.length c (cellsOf .u8 ys) hx (by rw [cellsOf_length, Nat.mul_one]) (words_addr8 hw) (cellsOf_oneCell _ _) (by unfold maxLen; omega) (by omega) hbase
      fun v' w' h1 h2 _ => h v' w' (Row.append h1) h2
end Go.Proofs.YtpmfngbdfmodmaaDoor.Sg
end
