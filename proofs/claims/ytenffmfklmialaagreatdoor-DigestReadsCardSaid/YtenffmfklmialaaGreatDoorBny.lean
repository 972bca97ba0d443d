/- part -/
import Derived.Test.YtenffmfklmialaaGreatDoorBnx
import Derived.Test.YtenffmfklmialaaGreatDoorBnp
set_option linter.unusedVariables false
set_option linter.unusedSimpArgs false
set_option maxHeartbeats 8000000
namespace Go.Proofs.YtenffmfklmialaaGreatDoor.Co
section
open Go.Conc
open Go.RowKit L64 Rw Ln Sg Spo Cd Al Dg
set_option maxRecDepth 20000
def grt (n m k : Nat) : Bool := decide (1100 < n) || decide (1100 < m) || decide (400 < k)
theorem great19_any (A : Option Addr) (n c : Nat) (B : Option Addr) (m d : Nat) (C : Option Addr) (k e0 : Nat) (w : World) :
 Calls Star.prog 9 #[.agg #[.slice A n c, .slice B m d], .slice C k e0] w fun e w' => e = .returned (.bool (grt n m k)) ∧ Below w.heap.size w w' := by
 have e1 : decide ((1100 : Int) < (n : Int)) = decide (1100 < n) := by simp; omega
 have e2 : decide ((1100 : Int) < (m : Int)) = decide (1100 < m) := by simp; omega
 have e3 : decide ((400 : Int) < (k : Int)) = decide (400 < k) := by simp; omega
 unfold grt
 rw [← e1, ← e2, ← e3]
 clear e1 e2 e3
 go_enter Star.func9, Star.ntmps9
 cases h1 : decide ((1100 : Int) < (n : Int)) <;> cases h2 : decide ((1100 : Int) < (m : Int)) <;> (go_wp2; go_ret; exact ⟨rfl, (Below.refl _ _).alloc (Nat.le_refl _) _⟩)
theorem refSuffix_any (n : Int) (w : World) : Calls Star.prog 44 #[.int .i64 n] w fun e w' => e = .returned (.int .i64 (if n ≤ 10 then 6 else 31)) ∧ w = w' := by
 by_cases h : n ≤ 10
 · rw [if_pos h]
   go_enter Star.func44, Star.ntmps44
   go_wp2
   go_ret
   exact ⟨rfl, rfl⟩
 · rw [if_neg h]
   go_enter Star.func44, Star.ntmps44
   go_wp2
   go_ret
   exact ⟨rfl, rfl⟩
theorem suf23 {alg : Int} (h : kdN (idx alg) = 2 ∨ kdN (idx alg) = 3) (xs ys : List Nat) : (if alg ≤ 10 then (6 : Int) else 31) = (S19 (kdN (idx alg)) xs ys : Nat) := by
 have h2 : ∀ i, i < 15 → kdN i = 2 → 7 ≤ i ∧ i ≤ 10 := by decide +kernel
 have h3 : ∀ i, i < 15 → kdN i = 3 → 11 ≤ i ∧ i ≤ 12 := by decide +kernel
 have hi : idx alg < 15 := idx_lt alg
 rcases h with h | h
 · have := h2 _ hi h
   rw [h]
   unfold idx at this
   split at this
   · rw [if_pos (by omega)]; rfl
   · omega
 · have := h3 _ hi h
   rw [h]
   unfold idx at this
   split at this
   · rw [if_neg (by omega)]; rfl
   · omega
theorem mul19 {alg : Int} (h : kdN (idx alg) = 4) : IntKind.i64.wrap (4 * (dgN (idx alg) : Int)) = bits19 alg := by
 rcases named19 h with rfl | rfl <;> decide +kernel
theorem refRead19_any (alg : Int) (hk : 2 ≤ kdN (idx alg)) (A1 : Option Addr) (c1 : Nat) (xs1 : List Nat) (A2 : Option Addr) (c2 : Nat) (xs2 : List Nat) (hl : kdN (idx alg) = 4 → xs1.length ≤ 1000 ∧ xs2.length ≤ 1000) (A3 : Option Addr) (c3 : Nat) (bs : List Nat) (hbs : AllLt 256 bs) (hl3 : bs.length ≤ 1000) (n : Nat) (hn : n ≤ 100000) (w : World) (hN : NmOk w A1 xs1 A2 xs2) (hw3 : Words .u8 w A3 bs) :
 Calls Star.prog 23 #[.int .i64 alg, .agg #[.slice A1 xs1.length c1, .slice A2 xs2.length c2], .slice A3 bs.length c3, .int .i64 (n : Nat)] w fun e w' =>
  ∃ A' c', e = .returned (.slice A' n c') ∧ Words .u8 w' A' (out19 (kdN (idx alg)) (bkN (idx alg)) xs1 xs2 bs n) ∧ Below w.heap.size w w' := by
 obtain ⟨hr1, hr2⟩ := rate19 _ (idx_lt alg) hk
 have hkl := kd_le _ (idx_lt alg)
 have hb := (Below.refl w.heap.size w).alloc (Nat.le_refl _) (.cells #[.slice A1 xs1.length c1, .slice A2 xs2.length c2] 29)
 have HA := Lib.hid (NmAt.mk (Hold.new w #[.slice A1 xs1.length c1, .slice A2 xs2.length c2] 29 2 rfl))
 have HN := Lib.hid (hN.call hb)
 have HW := Lib.hid (hw3.below hb (Nat.le_refl _))
 have HB := Lib.hid hb
 have HK := Lib.hid (fun W => refKind_any alg W)
 clear hb
 by_cases h4 : kdN (idx alg) = 4
 · obtain ⟨hl1, hl2⟩ := hl h4
   have HD := Lib.hid (fun W => refDigest_any alg W)
   have hmul := mul19 h4
   have HWh : Hid (∀ V, NmOk V A1 xs1 A2 xs2 → Words .u8 V A3 bs → Calls Star.prog 41 #[.int .i64 (bits19 alg), .agg #[.slice A1 xs1.length c1, .slice A2 xs2.length c2], .slice A3 bs.length c3, .int .i64 (n : Nat)] V fun e w' =>
    ∃ A' c', e = .returned (.slice A' n c') ∧ Words .u8 w' A' (out19 (kdN (idx alg)) (bkN (idx alg)) xs1 xs2 bs n) ∧ Below V.heap.size V w') := fun V h1 h2 => by
    have h := ref17whole_any (bits19 alg) (bits19_ok alg) A1 c1 xs1 A2 c2 xs2 A3 c3 bs hbs hl3 n hn V h1 h2 hl1 hl2
    rw [bits19_rate h4] at h
    unfold out19 S19 P19
    rw [h4]
    exact h
   rw [h4] at HK
   clear hr1 hr2 hl hN hw3 hkl hk hbs hl3 hn hl1 hl2
   generalize out19 (kdN (idx alg)) (bkN (idx alg)) xs1 xs2 bs n = YS at *
   generalize dgN (idx alg) = dg at *
   generalize bits19 alg = bt at *
   clear h4
   generalize xs1.length = n1 at *
   generalize xs2.length = n2 at *
   generalize bs.length = n3 at *
   go_enter Star.func23, Star.ntmps23
   go_wp2_with (go_at_call 21; refine (HK.out _).mono ?_; rintro e u1 ⟨rfl, rfl⟩)
   replace HA := Lib.hid (HA.out.call (below_drew (Below.refl _ _)))
   replace HN := Lib.hid (HN.out.call (below_drew (Below.refl _ _)))
   replace HW := Lib.hid (HW.out.below (below_drew (Below.refl _ _)) (Nat.le_refl _))
   replace HB := Lib.hid (below_drew HB.out)
   have q1 := HA.out.c0
   have q2 := HA.out.c1
   go_region_law (first
    | (go_simp
       go_at_call 24
       (with_reducible refine (HD.out _).mono ?_)
       rintro e u2 ⟨rfl, hb2⟩
       try clear q1 q2
       replace HA := Lib.hid (HA.out.call hb2)
       replace HN := Lib.hid (HN.out.call hb2)
       replace HW := Lib.hid (HW.out.below hb2 (Nat.le_refl _))
       replace HB := Lib.hid (HB.out.trans (hb2.mono HB.out.size))
       have q1 := HA.out.c0
       have q2 := HA.out.c1
       clear hb2)
    | (go_simp
       go_at_call 41
       (with_reducible refine (HWh.out _ HN.out HW.out).mono ?_)
       rintro e u3 ⟨A4, c4, rfl, hw4, hb3⟩
       have HW4 := Lib.hid hw4
       have HB4 := Lib.hid (HB.out.trans (hb3.mono HB.out.size))
       clear hw4 hb3))
   all_goals
    go_wp2_with fail
    go_ret
    exact ⟨A4, c4, rfl, HW4.out, HB4.out⟩
 · have h23 : kdN (idx alg) = 2 ∨ kdN (idx alg) = 3 := by omega
   have h4i : (((kdN (idx alg) : Nat) : Int) == 4) = false := beq_eq_false_iff_ne.2 (by omega)
   have HBk := Lib.hid (fun W => refBlock_any alg W)
   have HSx := Lib.hid (fun W => refSuffix_any alg W)
   rw [suf23 h23 xs1 xs2] at HSx
   have hS := S19_lt (kdN (idx alg)) xs1 xs2
   have HWh : Hid (∀ V, Words .u8 V A3 bs → Calls Star.prog 42 #[.int .i64 (bkN (idx alg) : Nat), .int .i64 (S19 (kdN (idx alg)) xs1 xs2 : Nat), .slice A3 bs.length c3, .int .i64 (n : Nat)] V fun e w' =>
    ∃ A' c', e = .returned (.slice A' n c') ∧ Words .u8 w' A' (out19 (kdN (idx alg)) (bkN (idx alg)) xs1 xs2 bs n) ∧ Below V.heap.size V w') := fun V h2 => by
    have h := whole_any (bkN (idx alg)) (S19 (kdN (idx alg)) xs1 xs2) hr1 hr2 hS A3 c3 bs hbs (by omega) n hn V h2
    unfold out19
    rw [show P19 (kdN (idx alg)) (bkN (idx alg)) xs1 xs2 = [] by unfold P19; rw [if_neg h4]]
    exact h
   clear hr1 hr2 hl hN hw3 hkl hk hbs hl3 hn h23 h4 hS
   generalize out19 (kdN (idx alg)) (bkN (idx alg)) xs1 xs2 bs n = YS at *
   generalize S19 (kdN (idx alg)) xs1 xs2 = S at *
   generalize bkN (idx alg) = R at *
   generalize kdN (idx alg) = k at *
   generalize xs1.length = n1 at *
   generalize xs2.length = n2 at *
   generalize bs.length = n3 at *
   go_enter Star.func23, Star.ntmps23
   go_wp2_with (first
    | (go_at_call 21; refine (HK.out _).mono ?_; rintro e u1 ⟨rfl, rfl⟩)
    | (go_at_call 43; refine (HBk.out _).mono ?_; rintro e u1 ⟨rfl, rfl⟩)
    | (go_at_call 44; refine (HSx.out _).mono ?_; rintro e u1 ⟨rfl, rfl⟩)
    | (go_at_call 42; refine (HWh.out _ HW.out).mono ?_; rintro e u3 ⟨A4, c4, rfl, hw4, hb3⟩; have HW4 := Lib.hid hw4; have HB4 := Lib.hid (HB.out.trans (hb3.mono HB.out.size)); clear hw4 hb3))
   go_ret
   exact ⟨A4, c4, rfl, HW4.out, HB4.out⟩
end
end Go.Proofs.YtenffmfklmialaaGreatDoor.Co

section
namespace Go.Proofs.YtenffmfklmialaaGreatDoor.Co
open Go.Conc
namespace KEnv
end KEnv
end Go.Proofs.YtenffmfklmialaaGreatDoor.Co
end

namespace Go.Proofs.YtenffmfklmialaaGreatDoor.Co
open Go.Conc
open Go.RowKit L64 Rw Ln Sg Spo Cd Al Dg
section
set_option maxRecDepth 20000
theorem read_no19 (alg : Int) (A1 : Option Addr) (c1 : Nat) (xs1 : List Nat) (A2 : Option Addr) (c2 : Nat) (xs2 : List Nat) (code : Nat) (h : (chk (kdN (idx alg)) xs1 xs2 ≠ 0 ∧ code = chk (kdN (idx alg)) xs1 xs2) ∨ (chk (kdN (idx alg)) xs1 xs2 = 0 ∧ kdN (idx alg) < 3 ∧ code = 6)) (V : Value) (many : Int) (w : World) (hT : ATab w) (hN : NmOk w A1 xs1 A2 xs2) :
 Calls Star.prog 7 #[.int .i64 alg, .agg #[.slice A1 xs1.length c1, .slice A2 xs2.length c2], V, .int .i64 many] w fun e w' => e = .returned (.tuple #[.slice none 0 0, .int .i64 (code : Nat)]) ∧ Below w.heap.size w w' := by
 have hb := (Below.refl w.heap.size w).alloc (Nat.le_refl _) (.cells #[.slice A1 xs1.length c1, .slice A2 xs2.length c2] 29)
 have HA := Lib.hid (NmAt.mk (Hold.new w #[.slice A1 xs1.length c1, .slice A2 xs2.length c2] 29 2 rfl))
 have HN := Lib.hid (hN.call hb)
 have HT := Lib.hid (hT.below hb (Nat.le_refl _))
 have HB := Lib.hid hb
 have HC := Lib.hid (fun W => check_any alg A1 c1 xs1 A2 c2 xs2 W)
 have HR := Lib.hid (fun W h => reads_any alg W h)
 clear hb hT hN
 have hq : kdN (idx alg) < 3 → (decide (kdN (idx alg) = 3) || decide (kdN (idx alg) = 4)) = false := fun h => by simp; omega
 generalize chk (kdN (idx alg)) xs1 xs2 = ch at *
 generalize xs1.length = n1 at *
 generalize xs2.length = n2 at *
 rcases h with ⟨h1, rfl⟩ | ⟨rfl, h2, rfl⟩
 · have e1 : (((code : Nat) : Int) != 0) = true := bne_iff_ne.2 (by omega)
   clear h1 hq HR
   have q1 := HA.out.c0
   have q2 := HA.out.c1
   go_enter Star.func7, Star.ntmps7
   go_wp2_with (go_at_call 15; refine (HC.out _ HT.out HN.out).mono ?_; rintro e u1 ⟨rfl, hb1⟩; have HB1 := Lib.hid (HB.out.trans (hb1.mono HB.out.size)); clear hb1 q1 q2)
   (try rw [Exit.noGoto_ret])
   go_ret2
   exact ⟨rfl, HB1.out⟩
 · rw [hq h2] at HR
   clear h2 hq
   have q1 := HA.out.c0
   have q2 := HA.out.c1
   go_enter Star.func7, Star.ntmps7
   go_wp2_with (first
    | (go_at_call 15; refine (HC.out _ HT.out HN.out).mono ?_; rintro e u1 ⟨rfl, hb1⟩; have HB1 := Lib.hid (HB.out.trans (hb1.mono HB.out.size)); have HT1 := Lib.hid (HT.out.below hb1 (Nat.le_refl _)); clear hb1 q1 q2)
    | (go_at_call 16; refine (HR.out _ HT1.out).mono ?_; rintro e u2 ⟨rfl, hb2⟩; have HB2 := Lib.hid (HB1.out.trans (hb2.mono HB1.out.size)); clear hb2))
   (try rw [Exit.noGoto_ret])
   go_ret2
   exact ⟨rfl, HB2.out⟩
theorem ys_small19 {n : Nat} (h : n ≤ 600) (k R : Nat) (xs1 xs2 bs : List Nat) : ys19 k R xs1 xs2 bs (n : Nat) = out19 k R xs1 xs2 bs n := by
 unfold ys19
 rw [if_pos (by unfold readB; simp; omega), Int.toNat_natCast]
structure E19 (u : World) (g : Nat) (alg : Int) (A1 : Option Addr) (n1 c1 : Nat) (xs1 : List Nat) (A2 : Option Addr) (n2 c2 : Nat) (xs2 : List Nat) (A3 : Option Addr) (n3 c3 : Nat) (bs : List Nat) (many : Int) : Prop where
 box : Hold u g 5 #[.int .i64 alg, .slice A1 n1 c1, .slice A2 n2 c2, .slice A3 n3 c3, .int .i64 many]
 nm : NmOk u A1 xs1 A2 xs2
 bw : Words .u8 u A3 bs
 ot : OTab u
 al : ATab u
section
variable {u u' : World} {g : Nat} {alg : Int} {A1 : Option Addr} {n1 c1 : Nat} {xs1 : List Nat} {A2 : Option Addr} {n2 c2 : Nat} {xs2 : List Nat} {A3 : Option Addr} {n3 c3 : Nat} {bs : List Nat} {many : Int}
theorem E19.next (h : E19 u g alg A1 n1 c1 xs1 A2 n2 c2 xs2 A3 n3 c3 bs many) (hb : KB u u') : E19 u' g alg A1 n1 c1 xs1 A2 n2 c2 xs2 A3 n3 c3 bs many :=
 ⟨by obtain ⟨T, hb⟩ := hb; exact Hold.call (hold_taped h.box T) hb, hb.name h.nm, hb.words h.bw, hb.otab h.ot, hb.atab h.al⟩
theorem E19.call (h : E19 u g alg A1 n1 c1 xs1 A2 n2 c2 xs2 A3 n3 c3 bs many) (hb : Below u.heap.size u u') : E19 u' g alg A1 n1 c1 xs1 A2 n2 c2 xs2 A3 n3 c3 bs many := h.next (KB.of hb)
theorem E19.taped (h : E19 u g alg A1 n1 c1 xs1 A2 n2 c2 xs2 A3 n3 c3 bs many) (T : Tape) : E19 (u.taped T) g alg A1 n1 c1 xs1 A2 n2 c2 xs2 A3 n3 c3 bs many := h.next ((KB.refl u).taped T)
theorem E19.cells (h : E19 u g alg A1 n1 c1 xs1 A2 n2 c2 xs2 A3 n3 c3 bs many) : u.cell? ⟨g, 0, none⟩ = some (.int .i64 alg) ∧ u.cell? ⟨g, 1, none⟩ = some (.slice A1 n1 c1) ∧ u.cell? ⟨g, 2, none⟩ = some (.slice A2 n2 c2) ∧ u.cell? ⟨g, 3, none⟩ = some (.slice A3 n3 c3) ∧ u.cell? ⟨g, 4, none⟩ = some (.int .i64 many) :=
 ⟨h.box.cell rfl, h.box.cell rfl, h.box.cell rfl, h.box.cell rfl, h.box.cell rfl⟩
end
theorem ops_reads19 (W : World) {ops : Array Oper} {i : Nat} {l : List Nat} {o : Oper} {Q : Exit → Go.Act → World → Prop} {a : Go.Act} {w : World} {args : Array Operand} {ats : Array TypeId} (ho : ops[i]? = some o) (hw : Region.wanted o (yielded ops a.tmps) = true) (hx : o.op = .call { callee := .value (.func 14), args := args, argTypes := ats })
 (alg : Int) (A1 : Option Addr) (c1 : Nat) (xs1 : List Nat) (A2 : Option Addr) (c2 : Nat) (xs2 : List Nat) (A3 : Option Addr) (c3 : Nat) (bs : List Nat) (hbs : AllLt 256 bs) (hlc3 : bs.length ≤ c3) (many : Int)
 (hvals : args.map a.eval = #[.agg #[.int .i64 alg, .slice A1 xs1.length c1, .slice A2 xs2.length c2, .slice A3 bs.length c3, .int .i64 many]])
 (hN : NmOk w A1 xs1 A2 xs2) (hw3 : Words .u8 w A3 bs) (hA3 : ∀ a, A3 = some a → a.block < w.heap.size) (hO : OTab w) (hT : ATab w) (hof : 4 < W.heap.size) (hWl : W.heap.size ≤ w.heap.size)
 (cont : ∀ w1, (lawEnv W).Ops ops l Q (a.put o.dst (.bool true)) w1) : (lawEnv W).Ops ops (i :: l) Q a w := by
 refine KEnv.ops_callK (lawEnv_tight W) ho hw hx (fun args w => by show (callFunc 14 args).run Star.prog w = _; kernel_rfl) Star.func14 rfl (R := fun v w1 => v = .bool true) ?_ (fun v w1 h1 => by subst h1; exact cont w1)
 rw [hvals]
 simp only [Star.ntmps14, List.size_toArray, List.length_cons, List.length_nil, Nat.reduceAdd, Nat.reduceSub, Array.replicate_succ, Array.replicate_zero, List.push_toArray, List.append_toArray, List.nil_append, List.cons_append]
 clear cont hvals hx hw ho
 refine KEnv.wk_mono (Q := fun e a w => (e = .normal ∨ e = .ret) ∧ a.defers = [] ∧ a.tmps.getD 2 undef = .bool true) ?_ (fun e a w h => ⟨h.1, h.2.1, _, results_tmp (by rfl) a.tmps Star.prog w, h.2.2⟩)
 refine KEnv.wk_then (lawEnv_tight W) fun T => ?_
 show Code.wp Star.prog _ _ _ _
 have hbl := (Below.refl (w.taped T).heap.size (w.taped T)).alloc (Nat.le_refl _) (.cells #[.int .i64 alg, .slice A1 xs1.length c1, .slice A2 xs2.length c2, .slice A3 bs.length c3, .int .i64 many] 39)
 have hkb : KB w ((w.taped T).alloc (.cells #[.int .i64 alg, .slice A1 xs1.length c1, .slice A2 xs2.length c2, .slice A3 bs.length c3, .int .i64 many] 39)) := KB.ofT hbl
 have F := Lib.hid (show E19 ((w.taped T).alloc (.cells #[.int .i64 alg, .slice A1 xs1.length c1, .slice A2 xs2.length c2, .slice A3 bs.length c3, .int .i64 many] 39)) (w.taped T).heap.size alg A1 xs1.length c1 xs1 A2 xs2.length c2 xs2 A3 bs.length c3 bs many from
  ⟨Hold.new _ _ _ 5 rfl, hkb.name hN, hkb.words hw3, hkb.otab hO, hkb.atab hT⟩)
 have HS := Lib.hid (Nat.le_trans hWl hkb.size)
 have HA := Lib.hid (fun a h => Nat.lt_of_lt_of_le (hA3 a h) hkb.size)
 clear hbl hkb hN hw3 hO hT hA3 hWl
 generalize w.taped T = w0 at *
 go_wp2_with fail
 generalize w0.alloc (.cells #[.int .i64 alg, .slice A1 xs1.length c1, .slice A2 xs2.length c2, .slice A3 bs.length c3, .int .i64 many] 39) = w1 at *
 generalize w0.heap.size = g at *
 refine KEnv.wk_seq (lawEnv_tight W) (KEnv.wk_seq (lawEnv_tight W) (KEnv.wk_region (lawEnv_tight W) ?_))
 show KEnv.Ops (lawEnv W) _ [0, 1] _ _ _
 refine ops_wakes19 W rfl rfl rfl F.out.ot F.out.al hof HS.out fun w2 hK => ?_
 replace F := Lib.hid (F.out.next hK)
 replace HS := Lib.hid (Nat.le_trans HS.out hK.size)
 replace HA := Lib.hid (fun a h => Nat.lt_of_lt_of_le (HA.out a h) hK.size)
 clear hK
 show KEnv.Ops (lawEnv W) _ [1] _ (Go.Act.put _ (some 6) _) _
 refine KEnv.ops_value (lawEnv_tight W) (v := .bool false) rfl rfl (fun T => rfl) (KEnv.ops_nil (lawEnv_tight W) ?_)
 show KEnv.Wk (lawEnv W) _ _ (Go.Act.put _ (some 7) _) _
 refine KEnv.wk_endk (lawEnv_tight W) (x := _) (fun a w h => h) fun T => ?_
 show Code.wp Star.prog _ _ _ _
 replace F := Lib.hid (F.out.taped T)
 replace HS := Lib.hid (show W.heap.size ≤ (w2.taped T).heap.size from HS.out)
 replace HA := Lib.hid (show ∀ a, A3 = some a → a.block < (w2.taped T).heap.size from HA.out)
 generalize w2.taped T = w3 at *
 simp only [Go.Act.put, List.setIfInBounds_toArray, List.set_cons_succ, List.set_cons_zero]
 go_wp2_with fail
 have HG := Lib.hid (fun w => great19_any A1 xs1.length c1 A2 xs2.length c2 A3 bs.length c3 w)
 by_cases hgr : grt xs1.length xs2.length bs.length = true
 · -- more than a statement takes
   rw [hgr] at HG
   clear hgr hbs hlc3
   refine KEnv.wk_wp (lawEnv_tight W) (fun _ _ _ _ h => h) fun T => ?_
   show Code.wp Star.prog _ _ _ _
   replace F := Lib.hid (F.out.taped T)
   generalize w3.taped T = w4 at *
   generalize xs1.length = n1 at *
   generalize xs2.length = n2 at *
   generalize bs.length = n3 at *
   obtain ⟨q0, q1, q2, q3, q4⟩ := F.out.cells
   go_wp2_with (go_at_call 9; refine (HG.out _).mono ?_; rintro e u1 ⟨rfl, hb⟩; clear hb q0 q1 q2 q3 q4)
   all_goals exact ⟨.inr rfl, rfl, rfl⟩
 have hgr : grt xs1.length xs2.length bs.length = false := by simpa using hgr
 rw [hgr] at HG
 have HL := Lib.hid (show xs1.length ≤ 1100 ∧ xs2.length ≤ 1100 ∧ bs.length ≤ 400 by unfold grt at hgr; simp at hgr; omega)
 clear hgr
 by_cases hmd : 600 < many ∧ many ≤ 1048576
 · -- more than a statement asks for
   have e1 : decide (600 < many) = true := decide_eq_true hmd.1
   have e2 : decide (many ≤ 1048576) = true := decide_eq_true hmd.2
   clear hmd hbs hlc3
   refine KEnv.wk_wp (lawEnv_tight W) (fun _ _ _ _ h => h) fun T => ?_
   show Code.wp Star.prog _ _ _ _
   replace F := Lib.hid (F.out.taped T)
   generalize w3.taped T = w4 at *
   generalize xs1.length = n1 at *
   generalize xs2.length = n2 at *
   generalize bs.length = n3 at *
   obtain ⟨q0, q1, q2, q3, q4⟩ := F.out.cells
   go_wp2_with (go_at_call 9; refine (HG.out _).mono ?_; rintro e u1 ⟨rfl, hb⟩; replace F := Lib.hid (F.out.call hb); clear q0 q1 q2 q3 q4; obtain ⟨q0, q1, q2, q3, q4⟩ := F.out.cells; clear hb)
   all_goals exact ⟨.inr rfl, rfl, rfl⟩
 have hge : (decide (600 < many) = false) ∨ (decide (600 < many) = true ∧ decide (many ≤ 1048576) = false) := by
  by_cases h : 600 < many
  · exact .inr ⟨decide_eq_true h, decide_eq_false (by omega)⟩
  · exact .inl (decide_eq_false h)
 have HMD := Lib.hid hmd
 clear hmd
 have HCk := Lib.hid (fun w => refCheck_any alg A1 c1 xs1 A2 c2 xs2 (by have := HL.out; omega) (by have := HL.out; omega) w)
 have HKi := Lib.hid (fun w => refKind_any alg w)
 by_cases hno : chk (kdN (idx alg)) xs1 xs2 = 0 ∧ 3 ≤ kdN (idx alg)
 · -- it is read
   obtain ⟨hc, hk⟩ := hno
   rw [hc] at HCk
   have hk3 : decide (((kdN (idx alg) : Nat) : Int) < 3) = false := decide_eq_false (by omega)
   have hl4 : kdN (idx alg) = 4 → xs1.length ≤ 1000 ∧ xs2.length ≤ 1000 := fun h => by
    unfold chk at hc
    rw [h, if_neg (by decide), if_pos rfl] at hc
    by_cases hr : nmR xs1 xs2 = true
    · unfold nmR at hr; simpa using hr
    · rw [if_neg hr] at hc; cases hc
   have HH := Lib.hid (And.intro hc (And.intro hk hl4))
   have HBs := Lib.hid (And.intro hbs hlc3)
   clear hc hk hl4 hbs hlc3
   rcases hge with e1 | ⟨e1, e2⟩
   all_goals
    refine KEnv.wk_then (lawEnv_tight W) fun T => ?_
    show Code.wp Star.prog _ _ _ _
    replace F := Lib.hid (F.out.taped T)
    replace HS := Lib.hid (show W.heap.size ≤ (w3.taped T).heap.size from HS.out)
    replace HA := Lib.hid (show ∀ a, A3 = some a → a.block < (w3.taped T).heap.size from HA.out)
    generalize w3.taped T = w4 at *
    obtain ⟨q0, q1, q2, q3, q4⟩ := F.out.cells
    go_wp2_with (go_at_call 9; refine (HG.out _).mono ?_; rintro e u1 ⟨rfl, hb⟩; replace F := Lib.hid (F.out.call hb); replace HS := Lib.hid (Nat.le_trans HS.out hb.size); replace HA := Lib.hid (fun a h => Nat.lt_of_lt_of_le (HA.out a h) hb.size); clear q0 q1 q2 q3 q4; obtain ⟨q0, q1, q2, q3, q4⟩ := F.out.cells; clear hb)
    clear q0 q1 q2 q3 q4 HG
    refine KEnv.wk_seq (lawEnv_tight W) (KEnv.wk_region (lawEnv_tight W) ?_)
    show KEnv.Ops (lawEnv W) _ [0, 1, 2, 3, 4, 5, 6, 7, 8, 9, 10, 11, 12, 13] _ _ _
    refine KEnv.ops_value (lawEnv_tight W) (v := .pointer (some ⟨g, 0, none⟩)) rfl rfl (fun T => by show (execOp _ _).run Star.prog _ = _; kernel_rfl) ?_
    show KEnv.Ops (lawEnv W) _ [1, 2, 3, 4, 5, 6, 7, 8, 9, 10, 11, 12, 13] _ (Go.Act.put _ (some 24) _) _
    simp only [Go.Act.put, List.setIfInBounds_toArray, List.set_cons_succ, List.set_cons_zero]
    refine KEnv.ops_load (lawEnv_tight W) (v := .int .i64 alg) rfl rfl rfl (fun T => by show (Instr.loadAt 3 (.pointer (some ⟨g, 0, none⟩))).run Star.prog _ = _; obtain ⟨q0, q1, q2, q3, q4⟩ := (F.out.taped T).cells; go_simp) ?_
    show KEnv.Ops (lawEnv W) _ [2, 3, 4, 5, 6, 7, 8, 9, 10, 11, 12, 13] _ (Go.Act.put _ (some 25) _) _
    simp only [Go.Act.put, List.setIfInBounds_toArray, List.set_cons_succ, List.set_cons_zero]
    refine KEnv.ops_value (lawEnv_tight W) (v := .pointer (some ⟨g, 1, none⟩)) rfl rfl (fun T => by show (execOp _ _).run Star.prog _ = _; kernel_rfl) ?_
    show KEnv.Ops (lawEnv W) _ [3, 4, 5, 6, 7, 8, 9, 10, 11, 12, 13] _ (Go.Act.put _ (some 26) _) _
    simp only [Go.Act.put, List.setIfInBounds_toArray, List.set_cons_succ, List.set_cons_zero]
    refine KEnv.ops_load (lawEnv_tight W) (v := .agg #[.slice A1 xs1.length c1, .slice A2 xs2.length c2]) rfl rfl rfl (fun T => by show (Instr.loadAt 29 (.pointer (some ⟨g, 1, none⟩))).run Star.prog _ = _; obtain ⟨q0, q1, q2, q3, q4⟩ := (F.out.taped T).cells; go_simp) ?_
    show KEnv.Ops (lawEnv W) _ [4, 5, 6, 7, 8, 9, 10, 11, 12, 13] _ (Go.Act.put _ (some 27) _) _
    simp only [Go.Act.put, List.setIfInBounds_toArray, List.set_cons_succ, List.set_cons_zero]
    refine KEnv.ops_value (lawEnv_tight W) (v := .pointer (some ⟨g, 3, none⟩)) rfl rfl (fun T => by show (execOp _ _).run Star.prog _ = _; kernel_rfl) ?_
    show KEnv.Ops (lawEnv W) _ [5, 6, 7, 8, 9, 10, 11, 12, 13] _ (Go.Act.put _ (some 28) _) _
    simp only [Go.Act.put, List.setIfInBounds_toArray, List.set_cons_succ, List.set_cons_zero]
    refine KEnv.ops_load (lawEnv_tight W) (v := .slice A3 bs.length c3) rfl rfl rfl (fun T => by show (Instr.loadAt 22 (.pointer (some ⟨g, 3, none⟩))).run Star.prog _ = _; obtain ⟨q0, q1, q2, q3, q4⟩ := (F.out.taped T).cells; go_simp) ?_
    show KEnv.Ops (lawEnv W) _ [6, 7, 8, 9, 10, 11, 12, 13] _ (Go.Act.put _ (some 29) _) _
    simp only [Go.Act.put, List.setIfInBounds_toArray, List.set_cons_succ, List.set_cons_zero]
    refine KEnv.ops_value (lawEnv_tight W) (v := .pointer (some ⟨g, 4, none⟩)) rfl rfl (fun T => by show (execOp _ _).run Star.prog _ = _; kernel_rfl) ?_
    show KEnv.Ops (lawEnv W) _ [7, 8, 9, 10, 11, 12, 13] _ (Go.Act.put _ (some 30) _) _
    simp only [Go.Act.put, List.setIfInBounds_toArray, List.set_cons_succ, List.set_cons_zero]
    refine KEnv.ops_load (lawEnv_tight W) (v := .int .i64 many) rfl rfl rfl (fun T => by show (Instr.loadAt 3 (.pointer (some ⟨g, 4, none⟩))).run Star.prog _ = _; obtain ⟨q0, q1, q2, q3, q4⟩ := (F.out.taped T).cells; go_simp) ?_
    show KEnv.Ops (lawEnv W) _ [8, 9, 10, 11, 12, 13] _ (Go.Act.put _ (some 31) _) _
    simp only [Go.Act.put, List.setIfInBounds_toArray, List.set_cons_succ, List.set_cons_zero]
    refine ops_read19 W rfl rfl rfl alg HH.out.2.1 A1 c1 xs1 A2 c2 xs2 HH.out.1 A3 c3 bs HBs.out.1 HBs.out.2 many (by simp only [List.map_toArray, List.map_cons, List.map_nil]; rfl) F.out.nm F.out.bw HA.out F.out.ot F.out.al hof HS.out fun v w5 hv => ?_
    obtain ⟨hkb, X1, x1, rfl, hw1, -⟩ := hv
    replace F := Lib.hid (F.out.next hkb)
    clear HS HA
    show KEnv.Ops (lawEnv W) _ (List.range' 9 5) _ (Go.Act.put _ (some 32) _) _
    refine KEnv.ops_tail (lawEnv_tight W) 9 (fun a w T h => KEnv.wk_tape h T) fun T => ?_
    simp only [List.drop_succ_cons, List.drop_zero, Go.Act.put, List.setIfInBounds_toArray, List.set_cons_succ, List.set_cons_zero]
    show wpList Star.prog _ _ _ _ _
    replace F := Lib.hid (F.out.taped T)
    have HW1 := Lib.hid (tell_taped (n := 0) (c := 0) hw1 T)
    clear hkb hw1
    generalize w5.taped T = w6 at *
    go_wp2_with fail
    refine KEnv.wk_wp (lawEnv_tight W) (fun _ _ _ _ h => h) fun T => ?_
    show Code.wp Star.prog _ _ _ _
    replace F := Lib.hid (F.out.taped T)
    replace HW1 := Lib.hid (tell_taped (n := 0) (c := 0) HW1.out T)
    generalize w6.taped T = w7 at *
    cases hr : readB many with
    | false =>
      have hy : ys19 (kdN (idx alg)) (bkN (idx alg)) xs1 xs2 bs many = [] := by unfold ys19; rw [hr]; rfl
      have he : er19 many = 1 := by unfold er19; rw [hr]; rfl
      rw [hy, he]
      clear HW1 hy he
      have hbad : decide (many < 0) = true ∨ (decide (many < 0) = false ∧ decide (1048576 < many) = true) := by
       unfold readB at hr
       simp at hr
       by_cases h : many < 0
       · exact .inl (decide_eq_true h)
       · exact .inr ⟨decide_eq_false h, decide_eq_true (hr (by omega))⟩
      clear hr HL HH HBs
      generalize kdN (idx alg) = kd at *
      generalize xs1.length = n1 at *
      generalize xs2.length = n2 at *
      generalize bs.length = n3 at *
      obtain ⟨q0, q1, q2, q3, q4⟩ := F.out.cells
      rcases hbad with e3 | ⟨e3, e4⟩
      all_goals
       go_wp2_with (first
        | (go_at_call 25; refine (HCk.out _).mono ?_; rintro e u1 ⟨rfl, hb⟩; replace F := Lib.hid (F.out.call hb); clear q0 q1 q2 q3 q4; obtain ⟨q0, q1, q2, q3, q4⟩ := F.out.cells; clear hb)
        | (go_at_call 21; refine (HKi.out _).mono ?_; rintro e u2 ⟨rfl, rfl⟩))
       all_goals exact ⟨.inr rfl, rfl, rfl⟩
    | true =>
      have hm : 0 ≤ many ∧ many ≤ 600 := by
       have := HMD.out
       unfold readB at hr
       simp at hr
       omega
      obtain ⟨m, rfl⟩ := Int.eq_ofNat_of_zero_le hm.1
      have HM := Lib.hid (show m ≤ 600 by omega)
      have hy := ys_small19 HM.out (kdN (idx alg)) (bkN (idx alg)) xs1 xs2 bs
      have he : er19 ((m : Nat) : Int) = 0 := by unfold er19; rw [hr]; rfl
      rw [hy] at HW1
      rw [hy, he, out19_length]
      have e3 : decide (((m : Nat) : Int) < 0) = false := decide_eq_false (by omega)
      have e4 : decide ((1048576 : Int) < ((m : Nat) : Int)) = false := decide_eq_false (by omega)
      clear hr hm hy he
      have HRd : Hid (∀ V, NmOk V A1 xs1 A2 xs2 → Words .u8 V A3 bs → Calls Star.prog 23 #[.int .i64 alg, .agg #[.slice A1 xs1.length c1, .slice A2 xs2.length c2], .slice A3 bs.length c3, .int .i64 (m : Nat)] V fun e w' =>
       ∃ A' c', e = .returned (.slice A' m c') ∧ Words .u8 w' A' (out19 (kdN (idx alg)) (bkN (idx alg)) xs1 xs2 bs m) ∧ Below V.heap.size V w') := fun V h1 h2 =>
       refRead19_any alg (by have := HH.out.2.1; omega) A1 c1 xs1 A2 c2 xs2 HH.out.2.2 A3 c3 bs HBs.out.1 (by have := HL.out; omega) m (by have := HM.out; omega) V h1 h2
      have HSm := Lib.hid (fun V A c B d h1 h2 => same_told (out19_length (kdN (idx alg)) (bkN (idx alg)) xs1 xs2 bs m) (out19_lt (kdN (idx alg)) (bkN (idx alg)) xs1 xs2 bs m) (by have := HM.out; omega) V A c B d h1 h2)
      clear HL HH HBs HM
      generalize out19 (kdN (idx alg)) (bkN (idx alg)) xs1 xs2 bs m = YS at *
      generalize kdN (idx alg) = kd at *
      generalize xs1.length = n1 at *
      generalize xs2.length = n2 at *
      generalize bs.length = n3 at *
      obtain ⟨q0, q1, q2, q3, q4⟩ := F.out.cells
      go_wp2_with (first
       | (go_at_call 25; refine (HCk.out _).mono ?_; rintro e u1 ⟨rfl, hb⟩; replace F := Lib.hid (F.out.call hb); replace HW1 := Lib.hid (HW1.out.below hb (Nat.le_refl _)); clear q0 q1 q2 q3 q4; obtain ⟨q0, q1, q2, q3, q4⟩ := F.out.cells; clear hb)
       | (go_at_call 21; refine (HKi.out _).mono ?_; rintro e u2 ⟨rfl, rfl⟩)
       | (go_at_call 23; refine (HRd.out _ F.out.nm F.out.bw).mono ?_; rintro e u3 ⟨X2, x2, rfl, hw2, hb⟩; have HW2 := Lib.hid hw2; replace HW1 := Lib.hid (HW1.out.below hb (Nat.le_refl _)); clear hw2 hb q0 q1 q2 q3 q4)
       | (go_at_call 8; refine (HSm.out _ _ _ _ _ HW1.out HW2.out).mono ?_; rintro e u4 ⟨rfl, hb⟩; clear hb))
      all_goals exact ⟨.inr rfl, rfl, rfl⟩
 · -- it is refused
   have hwhy : ∃ code : Nat, ((chk (kdN (idx alg)) xs1 xs2 ≠ 0 ∧ code = chk (kdN (idx alg)) xs1 xs2) ∨ (chk (kdN (idx alg)) xs1 xs2 = 0 ∧ kdN (idx alg) < 3 ∧ code = 6)) := by
    by_cases h : chk (kdN (idx alg)) xs1 xs2 = 0
    · exact ⟨6, .inr ⟨h, by omega, rfl⟩⟩
    · exact ⟨_, .inl ⟨h, rfl⟩⟩
   obtain ⟨code, hwhy⟩ := hwhy
   have HRd := Lib.hid (fun w hT hN => read_no19 alg A1 c1 xs1 A2 c2 xs2 code hwhy (.slice A3 bs.length c3) many w hT hN)
   clear hno hbs hlc3 HA HS HMD
   refine KEnv.wk_wp (lawEnv_tight W) (fun _ _ _ _ h => h) fun T => ?_
   show Code.wp Star.prog _ _ _ _
   replace F := Lib.hid (F.out.taped T)
   generalize w3.taped T = w4 at *
   have hwy : (((chk (kdN (idx alg)) xs1 xs2 : Nat) : Int) = (code : Nat) ∧ (((code : Nat) : Int) == 0) = false ∧ (((code : Nat) : Int) != 0) = true) ∨ (((chk (kdN (idx alg)) xs1 xs2 : Nat) : Int) = 0 ∧ decide (((kdN (idx alg) : Nat) : Int) < 3) = true ∧ ((code : Nat) : Int) = 6) := by
    rcases hwhy with ⟨h1, h2⟩ | ⟨h1, h2, h3⟩
    · exact .inl ⟨by rw [h2], beq_eq_false_iff_ne.2 (by omega), bne_iff_ne.2 (by omega)⟩
    · exact .inr ⟨by rw [h1]; rfl, decide_eq_true (by omega), by rw [h3]; rfl⟩
   clear hwhy HL
   generalize ((chk (kdN (idx alg)) xs1 xs2 : Nat) : Int) = ch at *
   generalize ((code : Nat) : Int) = cd at *
   generalize kdN (idx alg) = kd at *
   generalize xs1.length = n1 at *
   generalize xs2.length = n2 at *
   generalize bs.length = n3 at *
   obtain ⟨q0, q1, q2, q3, q4⟩ := F.out.cells
   rcases hge with e1 | ⟨e1, e2⟩
   all_goals rcases hwy with ⟨rfl, e3, e4⟩ | ⟨rfl, e3, rfl⟩
   all_goals
    go_wp2_with (first
     | (go_at_call 9; refine (HG.out _).mono ?_; rintro e u1 ⟨rfl, hb⟩; replace F := Lib.hid (F.out.call hb); clear q0 q1 q2 q3 q4; obtain ⟨q0, q1, q2, q3, q4⟩ := F.out.cells; clear hb)
     | (go_at_call 7; refine (HRd.out _ F.out.al F.out.nm).mono ?_; rintro e u1 ⟨rfl, hb⟩; replace F := Lib.hid (F.out.call hb); clear q0 q1 q2 q3 q4; obtain ⟨q0, q1, q2, q3, q4⟩ := F.out.cells; clear hb)
     | (go_at_call 25; refine (HCk.out _).mono ?_; rintro e u1 ⟨rfl, hb⟩; replace F := Lib.hid (F.out.call hb); clear q0 q1 q2 q3 q4; obtain ⟨q0, q1, q2, q3, q4⟩ := F.out.cells; clear hb)
     | (go_at_call 21; refine (HKi.out _).mono ?_; rintro e u2 ⟨rfl, rfl⟩))
    all_goals exact ⟨.inr rfl, rfl, rfl⟩
end
section
set_option maxRecDepth 20000 in
theorem digestReads_goes (W : World) (alg : Int) (A1 : Option Addr) (c1 : Nat) (xs1 : List Nat) (A2 : Option Addr) (c2 : Nat) (xs2 : List Nat) (hN : NmOk (ice W) A1 xs1 A2 xs2)
 (A3 : Option Addr) (c3 : Nat) (bs : List Nat) (hbs : AllLt 256 bs) (hlc3 : bs.length ≤ c3) (hw3 : Words .u8 (ice W) A3 bs) (hA3 : ∀ a, A3 = some a → a.block < W.heap.size) (many : Int) (hO : OTab (ice W)) (hT : ATab (ice W)) :
 (lawEnv W).Goes (LawStop Star.prog 5 (fun v _ => v = .bool true)) (G (Frame.enter Star.prog 5 #[.agg #[.int .i64 alg, .slice A1 xs1.length c1, .slice A2 xs2.length c2, .slice A3 bs.length c3, .int .i64 many]] .normal) [botF]) (ice W) := by
 refine goes_lawT (lawEnv_tight W) (p := 2) (r := fun v => v = .bool true) Star.func5 rfl rfl ?_
 simp only [Star.ntmps5, List.size_toArray, List.length_cons, List.length_nil, Nat.reduceAdd, Nat.reduceSub, Array.replicate_succ, Array.replicate_zero, List.push_toArray, List.append_toArray, List.nil_append, List.cons_append]
 have hof : 4 < W.heap.size := by
  have := block_lt_of_cell (hO.offs 0 _ rfl)
  rw [ice_size] at this
  exact this
 refine KEnv.wk_then (lawEnv_tight W) fun T => ?_
 show Code.wp Star.prog _ _ _ _
 have hw0 : ((ice W).taped T).heap.size = W.heap.size := ice_size
 have hbl := (Below.refl ((ice W).taped T).heap.size ((ice W).taped T)).alloc (Nat.le_refl _) (.cells #[.int .i64 alg, .slice A1 xs1.length c1, .slice A2 xs2.length c2, .slice A3 bs.length c3, .int .i64 many] 39)
 have hkb : KB (ice W) (((ice W).taped T).alloc (.cells #[.int .i64 alg, .slice A1 xs1.length c1, .slice A2 xs2.length c2, .slice A3 bs.length c3, .int .i64 many] 39)) := KB.ofT hbl
 have F := Lib.hid (show E19 (((ice W).taped T).alloc (.cells #[.int .i64 alg, .slice A1 xs1.length c1, .slice A2 xs2.length c2, .slice A3 bs.length c3, .int .i64 many] 39)) ((ice W).taped T).heap.size alg A1 xs1.length c1 xs1 A2 xs2.length c2 xs2 A3 bs.length c3 bs many from
  ⟨Hold.new _ _ _ 5 rfl, hkb.name hN, hkb.words hw3, hkb.otab hO, hkb.atab hT⟩)
 have HS := Lib.hid (show W.heap.size ≤ (((ice W).taped T).alloc (.cells #[.int .i64 alg, .slice A1 xs1.length c1, .slice A2 xs2.length c2, .slice A3 bs.length c3, .int .i64 many] 39)).heap.size by have := hbl.size; omega)
 clear hw0 hbl hkb hN hw3 hO hT
 generalize (ice W).taped T = w0 at *
 go_wp2_with fail
 generalize w0.alloc (.cells #[.int .i64 alg, .slice A1 xs1.length c1, .slice A2 xs2.length c2, .slice A3 bs.length c3, .int .i64 many] 39) = w1 at *
 generalize w0.heap.size = g at *
 refine KEnv.wk_seq (lawEnv_tight W) (KEnv.wk_region (lawEnv_tight W) ?_)
 show KEnv.Ops (lawEnv W) _ [0, 1, 2] _ _ _
 refine KEnv.ops_load (lawEnv_tight W) (v := .agg #[.int .i64 alg, .slice A1 xs1.length c1, .slice A2 xs2.length c2, .slice A3 bs.length c3, .int .i64 many]) rfl rfl rfl (fun T => (F.out.taped T).box.load (T := 39) Star.underlying39 rfl (by kernel_rfl)) ?_
 show KEnv.Ops (lawEnv W) _ [1, 2] _ (Go.Act.put _ (some 3) _) _
 refine ops_reads19 W rfl rfl rfl alg A1 c1 xs1 A2 c2 xs2 A3 c3 bs hbs hlc3 many (by simp only [List.map_toArray, List.map_cons, List.map_nil]; rfl) F.out.nm F.out.bw (fun a h => Nat.lt_of_lt_of_le (hA3 a h) HS.out) F.out.ot F.out.al hof HS.out fun w2 => ?_
 show KEnv.Ops (lawEnv W) _ (List.range' 2 1) _ (Go.Act.put _ (some 4) _) _
 refine KEnv.ops_tail (lawEnv_tight W) 2 (fun a w T h => KEnv.wk_tape h T) fun T => ?_
 simp only [List.drop_succ_cons, List.drop_zero, Go.Act.put, List.setIfInBounds_toArray, List.set_cons_succ, List.set_cons_zero]
 show wpList Star.prog _ _ _ _ _
 generalize w2.taped T = w3 at *
 go_wp2_with fail
 refine KEnv.wk_wp (lawEnv_tight W) (fun _ _ _ _ h => h) fun T => ?_
 show Code.wp Star.prog _ _ _ _
 generalize w3.taped T = w4 at *
 go_wp2_with fail
 all_goals exact ⟨.inr rfl, rfl, rfl⟩
end
end Go.Proofs.YtenffmfklmialaaGreatDoor.Co
