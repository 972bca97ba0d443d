/-  |  -/
import Derived.Test.YtpmfngbdfmodmaaDoorBnr
import Derived.Test.YtpmfngbdfmodmaaDoorBns
section
namespace Go.Proofs.YtpmfngbdfmodmaaDoor.Co
open Go.Conc
open Go.RowKit L64 Rw Ln Sg Spo
set_option linter.unusedVariables false
set_option linter.unusedSimpArgs false
def lit228 (u : Nat → Value) : Array Value := #[u 0, u 1, u 2, u 3, u 4, u 5, u 6, u 7, u 8, u 9, u 10, u 11, u 12, u 13, u 14, u 15, u 16, u 17, u 18, u 19, u 20, u 21, u 22, u 23, u 24, u 25, u 26, u 27, u 28, u 29, u 30, u 31, u 32, u 33, u 34, u 35, u 36, u 37, u 38, u 39, u 40, u 41, u 42, u 43, u 44, u 45, u 46, u 47, u 48, u 49, u 50, u 51, u 52, u 53, u 54, u 55, u 56, u 57, u 58, u 59, u 60, u 61, u 62, u 63, u 64, u 65, u 66, u 67, u 68, u 69, u 70, u 71, u 72, u 73, u 74, u 75, u 76, u 77, u 78, u 79, u 80, u 81, u 82, u 83, u 84, u 85, u 86, u 87, u 88, u 89, u 90, u 91, u 92, u 93, u 94, u 95, u 96, u 97, u 98, u 99, u 100, u 101, u 102, u 103, u 104, u 105, u 106, u 107, u 108, u 109, u 110, u 111, u 112, u 113, u 114, u 115, u 116, u 117, u 118, u 119, u 120, u 121, u 122, u 123, u 124, u 125, u 126, u 127, u 128, u 129, u 130, u 131, u 132, u 133, u 134, u 135, u 136, u 137, u 138, u 139, u 140, u 141, u 142, u 143, u 144, u 145, u 146, u 147, u 148, u 149, u 150, u 151, u 152, u 153, u 154, u 155, u 156, u 157, u 158, u 159, u 160, u 161, u 162, u 163, u 164, u 165, u 166, u 167, u 168, u 169, u 170, u 171, u 172, u 173, u 174, u 175, u 176, u 177, u 178, u 179, u 180, u 181, u 182, u 183, u 184, u 185, u 186, u 187, u 188, u 189, u 190, u 191, u 192, u 193, u 194, u 195, u 196, u 197, u 198, u 199, u 200, u 201, u 202, u 203, u 204, u 205, u 206, u 207, u 208, u 209, u 210, u 211, u 212, u 213, u 214, u 215, u 216, u 217, u 218, u 219, u 220, u 221, u 222, u 223, u 224, u 225, u 226, u 227]
theorem lit_of228 {a : Go.Act} (hs : a.tmps.size = 228) (hd : a.defers = []) : ∃ u : Nat → Value, a = { tmps := lit228 u, defers := [] } := by
  obtain ⟨tm, df⟩ := a
  simp only at hs hd
  subst hd
  refine ⟨fun k => tm.getD k undef, ?_⟩
  congr 1
  apply Array.ext'
  have e : tm.toList = (List.range 228).map fun k => tm.getD k undef := by
    apply List.ext_getElem?
    intro i
    rw [List.getElem?_map]
    by_cases hi : i < 228
    · rw [List.getElem?_range hi, Array.getElem?_toList, Array.getElem?_eq_getElem (by omega)]
      simp [Array.getD, hs, hi]
    · rw [List.getElem?_eq_none (by simp; omega), List.getElem?_eq_none (by simp; omega)]
      rfl
  rw [e]
  rfl
theorem gtC_lit (R S : Int) (f : Nat → Nat) (p : Int) (rd : Bool) (v : Value) : gtC (rpC R S f p rd) v = #[.int .i64 R, .int .i64 S, .int .u64 (f 0 : Nat), .int .u64 (f 1 : Nat), .int .u64 (f 2 : Nat), .int .u64 (f 3 : Nat), .int .u64 (f 4 : Nat), .int .u64 (f 5 : Nat), .int .u64 (f 6 : Nat), .int .u64 (f 7 : Nat), .int .u64 (f 8 : Nat), .int .u64 (f 9 : Nat), .int .u64 (f 10 : Nat), .int .u64 (f 11 : Nat), .int .u64 (f 12 : Nat), .int .u64 (f 13 : Nat), .int .u64 (f 14 : Nat), .int .u64 (f 15 : Nat), .int .u64 (f 16 : Nat), .int .u64 (f 17 : Nat), .int .u64 (f 18 : Nat), .int .u64 (f 19 : Nat), .int .u64 (f 20 : Nat), .int .u64 (f 21 : Nat), .int .u64 (f 22 : Nat), .int .u64 (f 23 : Nat), .int .u64 (f 24 : Nat), .int .i64 p, .bool rd, v] := rfl
def sumL (l : List OpV) : Nat → Nat
  | 0 => 0
  | i + 1 => sumL l i + (l.getD i default).bs.length
theorem getD_bs {l : List OpV} (hl : ∀ v ∈ l, v.bs.length ≤ 281474976710656) (i : Nat) : (l.getD i default).bs.length ≤ 281474976710656 := by
  rw [List.getD_eq_getElem?_getD]
  cases h : l[i]? with
  | none => show ([] : List Nat).length ≤ _; simp
  | some v => exact hl v (List.mem_of_getElem? h)
theorem accL_sum {l : List OpV} (hl : ∀ v ∈ l, v.bs.length ≤ 281474976710656) : ∀ i, i ≤ 12 → accL l i = (sumL l i : Nat) ∧ sumL l i ≤ i * 281474976710656
  | 0, _ => ⟨rfl, Nat.zero_le _⟩
  | i + 1, h => by
    obtain ⟨h1, h2⟩ := accL_sum hl i (by omega)
    have h3 := getD_bs hl i
    have h4 : sumL l (i + 1) = sumL l i + (l.getD i default).bs.length := rfl
    have h5 : accL l (i + 1) = wrap64 (accL l i + ((l.getD i default).bs.length : Nat)) := rfl
    rw [h5, h4, h1]
    refine ⟨?_, by omega⟩
    unfold wrap64
    omega
theorem sumL_le (l : List OpV) : ∀ i j, j < i → (l.getD j default).bs.length ≤ sumL l i
  | 0, j, h => by omega
  | i + 1, j, h => by
    have h4 : sumL l (i + 1) = sumL l i + (l.getD i default).bs.length := rfl
    by_cases hj : j = i
    · subst hj; omega
    · have := sumL_le l i j (by omega)
      omega
theorem long_bs {l : List OpV} (h : longB l = false) (hl : ∀ v ∈ l, v.bs.length ≤ 281474976710656) : ∀ v ∈ l, v.bs.length ≤ 600 := fun v hm => by
  unfold longB at h
  rw [Bool.or_eq_false_iff, Bool.or_eq_false_iff] at h
  have h1 := of_decide_eq_false h.2.1
  have h2 := of_decide_eq_false h.2.2
  obtain ⟨j, hj⟩ := List.mem_iff_getElem?.1 hm
  have hjl := (List.getElem?_eq_some_iff.1 hj).1
  have h3 := sumL_le l l.length j hjl
  rw [List.getD_eq_getElem?_getD, hj] at h3
  have h3' : v.bs.length ≤ sumL l l.length := h3
  rw [(accL_sum hl l.length (by omega)).1] at h1
  omega
def fieldSem (x : Value) : Sem Value := Instr.field 45 x 1
theorem fieldG (x : Value) : Instr.field 45 x 1 = fieldSem x := rfl
attribute [go_sem ↓] fieldG
theorem run_fieldG (R S : Int) (f : Nat → Nat) (p : Int) (rd : Bool) (A : Option Addr) (n c : Nat) (w : World) : (fieldSem (.agg (gtC (rpC R S f p rd) (.slice A n c)))).run Star.prog w = .ok (.slice A n c) w := by
  rw [gtC_lit]
  kernel_rfl
attribute [go_sem] run_fieldG
theorem run_loadGS {W : World} {n : Nat} {R S : Int} {f : Nat → Nat} {p : Int} {rd : Bool} {v : Value} (h : Hold W n 30 (gtC (rpC R S f p rd) v)) : (loadRow 26 (.pointer (some ⟨n, 0, none⟩))).run Star.prog W = .ok (.agg (rpC R S f p rd)) W := by
  have hr : W.rangeAt n 0 (rpC R S f p rd).toList := fun j u hj => by
    rw [Nat.zero_add]
    refine h.cell ?_
    rw [Array.getElem?_toList] at hj
    have hl := (Array.getElem?_eq_some_iff.1 hj).1
    unfold gtC
    rw [Array.getElem?_push_lt hl, ← hj, Array.getElem?_eq_getElem hl]
  have := run_loadAt_mid (P := Star.prog) W n 0 26 (rpC R S f p rd).toList _ hr Star.underlying26 rfl (by rw [Array.length_toList, rpC_size]; kernel_rfl)
  rwa [Array.toArray_toList] at this
structure S5 (a : Go.Act) (g : Nat) (A : Option Addr) (n c i B : Nat) : Prop where
  size : a.tmps.size = 228
  defers : a.defers = []
  s2 : a.tmps.getD 2 undef = .pointer (some ⟨g, 0, none⟩)
  s5 : a.tmps.getD 5 undef = .pointer (some ⟨B, 0, none⟩)
  s57 : a.tmps.getD 57 undef = .slice A n c
  s58 : a.tmps.getD 58 undef = .int .i64 (n : Nat)
  s59 : a.tmps.getD 59 undef = .int .i64 (i : Nat)
structure S6 (a : Go.Act) (g : Nat) (A : Option Addr) (n c i B o : Nat) : Prop where
  size : a.tmps.size = 228
  defers : a.defers = []
  s2 : a.tmps.getD 2 undef = .pointer (some ⟨g, 0, none⟩)
  s5 : a.tmps.getD 5 undef = .pointer (some ⟨B, 0, none⟩)
  s8 : a.tmps.getD 8 undef = .pointer (some ⟨o, 0, none⟩)
  s57 : a.tmps.getD 57 undef = .slice A n c
  s58 : a.tmps.getD 58 undef = .int .i64 (n : Nat)
  s59 : a.tmps.getD 59 undef = .int .i64 (i : Nat)
structure Q5 (w : World) (g B R S : Nat) (f : Nat → Nat) (p : Nat) (rd : Bool) (A : Option Addr) (l : List OpV) : Prop where
  sp : Sp w B R S f p rd
  rp : Rp w g (R : Nat) (S : Nat) f (p : Nat) rd
  ot : OTab w
  oz : Opz w A l
theorem Q5.taped {w : World} {g B R S : Nat} {f : Nat → Nat} {p : Nat} {rd : Bool} {A : Option Addr} {l : List OpV} (h : Q5 w g B R S f p rd A l) (T : Tape) : Q5 (w.taped T) g B R S f p rd A l :=
  ⟨hold_taped h.sp T, hold_taped h.rp T, otab_taped h.ot T, h.oz⟩
theorem Q5.below {w w' : World} {g B R S : Nat} {f : Nat → Nat} {p : Nat} {rd : Bool} {A : Option Addr} {l : List OpV} (h : Q5 w g B R S f p rd A l) (hb : Below w.heap.size w w') : Q5 w' g B R S f p rd A l :=
  ⟨h.sp.call hb, h.rp.call hb, h.ot.below hb (Nat.le_refl _), h.oz.below hb⟩
theorem opz_turns {n k : Nat} {u : Array Value} {w w' : World} (ht : Turns n k u w w') {A : Option Addr} {l : List OpV} (h : Opz w A l) (hA : ∀ a, A = some a → a.block ≠ n) (hB : ∀ v ∈ l, ∀ a, v.A = some a → a.block ≠ n) : Opz w' A l := fun i v hi => by
  obtain ⟨b, o, e, h0, h1, h2, hw⟩ := h i v hi
  have hb := hA _ e
  exact ⟨b, o, e, (cell_turns ht (a := ⟨b, o + i * 3, none⟩) (block_lt_of_cell h0) hb).trans h0, (cell_turns ht (a := ⟨b, o + i * 3 + 1, none⟩) (block_lt_of_cell h1) hb).trans h1, (cell_turns ht (a := ⟨b, o + i * 3 + 2, none⟩) (block_lt_of_cell h2) hb).trans h2, words_turns ht hw (hB v (List.mem_of_getElem? hi))⟩
theorem Q5.turns {w w' : World} {g B R S : Nat} {f f' : Nat → Nat} {p p' : Nat} {rd rd' : Bool} {A : Option Addr} {l : List OpV} (h : Q5 w g B R S f p rd A l) (ht : Turns B 29 (spC R S f' p' rd') w w') (hg : g ≠ B) (ho : 0 ≠ B) (hA : ∀ a, A = some a → a.block ≠ B) (hB : ∀ v ∈ l, ∀ a, v.A = some a → a.block ≠ B) :
    Sp w' B R S f' p' rd' ∧ Rp w' g (R : Nat) (S : Nat) f (p : Nat) rd ∧ OTab w' ∧ Opz w' A l :=
  ⟨ht.row, h.rp.turns ht hg, h.ot.turns ht ho, opz_turns ht h.oz hA hB⟩
def I5 (W : World) (g : Nat) (A : Option Addr) (c : Nat) (l : List OpV) (R S : Nat) (n : Nat) (a : Go.Act) (w : World) : Prop :=
  ∃ i B f p rd, S5 a g A l.length c i B ∧ n = l.length - i ∧ i ≤ l.length ∧ W.heap.size ≤ B ∧ g < B ∧ (∀ i, f i < 18446744073709551616) ∧ p ≤ R ∧ (rd = false → p < R) ∧ Q5 w g B R S f p rd A l
theorem I5.taped {W : World} {g : Nat} {A : Option Addr} {c : Nat} {l : List OpV} {R S n : Nat} {a : Go.Act} {w : World} (h : I5 W g A c l R S n a w) (T : Tape) : I5 W g A c l R S n a (w.taped T) := by
  obtain ⟨i, B, f, p, rd, h1, h2, h3, h4, h5, h6, h7, h8, h9⟩ := h
  exact ⟨i, B, f, p, rd, h1, h2, h3, h4, h5, h6, h7, h8, h9.taped T⟩
end Go.Proofs.YtpmfngbdfmodmaaDoor.Co
end

section
namespace Go.Proofs.YtpmfngbdfmodmaaDoor.Co
open Go.Conc
open Go.RowKit L64 Rw Ln Sg Spo
set_option linter.unusedVariables false
set_option linter.unusedSimpArgs false
set_option maxRecDepth 20000 in
set_option maxHeartbeats 4000000 in
theorem acts_goes (W : World) (R S : Int) (f : Nat → Nat) (hf : ∀ i, f i < 18446744073709551616) (p : Int) (rd : Bool) (A : Option Addr) (c : Nat) (l : List OpV) (hlc : l.length ≤ c) (hc : c ≤ maxLen) (hv : ∀ v ∈ l, OkV v) (hbl : ∀ v ∈ l, v.bs.length ≤ 281474976710656) (hO : Opz (ice W) A l) (hA : ∀ a, A = some a → a.block < W.heap.size) (hB : ∀ v ∈ l, ∀ a, v.A = some a → a.block < W.heap.size) (hT : OTab (ice W)) :
    (lawEnv W).Goes (LawStop Star.prog 3 (fun v _ => v = .bool true)) (G (Frame.enter Star.prog 3 #[.agg (rpC R S f p rd), .slice A l.length c] .normal) [botF]) (ice W) := by
  refine goes_lawT (lawEnv_tight W) (p := 4) (r := fun v => v = .bool true) Star.func3 rfl rfl ?_
  simp only [Star.ntmps3, List.size_toArray, List.length_cons, List.length_nil, Nat.reduceAdd, Nat.reduceSub, Array.replicate_succ, Array.replicate_zero, List.push_toArray, List.append_toArray, List.nil_append, List.cons_append]
  have CW : Hid (∀ w, OTab w → Calls Star.prog 4 #[] w fun e w' => e = .returned (.bool true) ∧ Below w.heap.size w w') := fun w h => wakes15_any w h
  have CL : Hid (∀ w, Opz w A l → Calls Star.prog 5 #[.slice A l.length c] w fun e w' => e = .returned (.bool (longB l)) ∧ Below w.heap.size w w') := fun w h => long_any A c l hlc hc hv w h
  have CR : Hid (∀ w, Calls Star.prog 7 #[.agg (rpC R S f p rd)] w fun e w' => e = .returned (.bool (okB R S p rd)) ∧ Below w.heap.size w w') := fun w => right_any R S f p rd w
  have CF := Lib.hid (fun w => from_any R S p f rd w)
  have hof : 0 < W.heap.size := by
    have := block_lt_of_cell (hT.offs 0 _ rfl)
    rw [ice_size] at this
    exact this
  refine KEnv.wk_then (lawEnv_tight W) fun T => ?_
  show Code.wp Star.prog _ _ _ _
  have hw0 : ((ice W).taped T).heap.size = W.heap.size := ice_size
  have hb0 := (Below.refl ((ice W).taped T).heap.size ((ice W).taped T)).alloc (Nat.le_refl _) (.cells (rpC R S f p rd) 26)
  have hT1 := (otab_taped hT T).below hb0 (Nat.le_refl _)
  have hO1 := Opz.below (w := (ice W).taped T) hO hb0
  have hX1 := Hold.new ((ice W).taped T) (rpC R S f p rd) 26 29 (rpC_size R S f p rd)
  clear hb0 hO hT
  generalize (ice W).taped T = w0 at *
  have HG := Lib.hid hw0
  clear hw0
  go_wp2_with fail
  generalize w0.alloc (.cells (rpC R S f p rd) 26) = w1 at *
  have hg0 : W.heap.size ≤ w0.heap.size := Nat.le_of_eq HG.out.symm
  clear HG
  generalize w0.heap.size = g at *
  have HT1 := Lib.hid hT1
  have HO1 := Lib.hid hO1
  have HX1 := Lib.hid hX1
  clear hT1 hO1 hX1
  show KEnv.Wk (lawEnv W) _ _ _ _
  cases hlong : longB l with
  | true =>
    rw [hlong] at CL
    refine KEnv.wk_wp (lawEnv_tight W) (fun _ _ _ _ h => h) fun T => ?_
    show Code.wp Star.prog _ _ _ _
    have HT2 := Lib.hid (otab_taped HT1.out T)
    have HO2 : Hid (Opz (w1.taped T) A l) := Lib.hid HO1.out
    generalize w1.taped T = w2 at *
    go_wp2_with (first
      | (go_at_call 4; (with_reducible refine (CW.out _ HT2.out).mono ?_); rintro e w3 ⟨rfl, hb3⟩; have HO3 := Lib.hid (HO2.out.below hb3); clear hb3)
      | (go_at_call 5; (with_reducible refine (CL.out _ HO3.out).mono ?_); rintro e w4 ⟨rfl, hb4⟩; clear hb4))
    exact ⟨.inr rfl, rfl, rfl⟩
  | false =>
    rw [hlong] at CL
    cases hok : okB R S p rd with
    | false =>
      rw [hok] at CR
      have HOK := Lib.hid hok
      refine KEnv.wk_wp (lawEnv_tight W) (fun _ _ _ _ h => h) fun T => ?_
      show Code.wp Star.prog _ _ _ _
      have HT2 := Lib.hid (otab_taped HT1.out T)
      have HO2 : Hid (Opz (w1.taped T) A l) := Lib.hid HO1.out
      have HX2 := Lib.hid (hold_taped HX1.out T)
      clear HT1 HO1 HX1 hok
      generalize w1.taped T = w2 at *
      go_wp2_with (first
        | (go_at_call 4; (with_reducible refine (CW.out _ HT2.out).mono ?_); rintro e w3 ⟨rfl, hb3⟩; have HO3 := Lib.hid (HO2.out.below hb3); have HX3 := Lib.hid (HX2.out.call hb3); clear hb3)
        | (go_at_call 5; (with_reducible refine (CL.out _ HO3.out).mono ?_); rintro e w4 ⟨rfl, hb4⟩; have HX4 := Lib.hid (HX3.out.call hb4); have F4 := rpF HX4.out; have q1 := F4.rate; have q2 := F4.suf; have q3 := F4.at'; have q4 := F4.read; have q5 := run_loadRp HX4.out; clear hb4 F4)
        | (go_at_call 6; refine (CF.out _).mono ?_; intro e w5 h5; obtain ⟨rfl, hb5⟩ := h5.2 HOK.out; have HX5 := Lib.hid (HX4.out.call hb5); have q6 : (loadRow 26 (.pointer (some ⟨g, 0, none⟩))).run Star.prog w5 = .ok (.agg (rpC R S f p rd)) w5 := HX5.out.load Star.underlying26 rfl (by kernel_rfl); clear h5 hb5 q1 q2 q3 q4 q5)
        | (go_at_call 7; (with_reducible refine (CR.out _).mono ?_); rintro e w6 ⟨rfl, hb6⟩; clear hb6 q6))
      exact ⟨.inr rfl, rfl, rfl⟩
    | true =>
      rw [hok] at CR
      have HOK := Lib.hid hok
      have hkr := okB_rate hok
      have hsu := okB_suf hok
      have hplace : 0 ≤ p ∧ (p < R ∨ (rd = true ∧ p = R)) := by
        have h := hok
        unfold okB placeB at h
        simp only [Bool.and_eq_true, Bool.or_eq_true, decide_eq_true_eq] at h
        exact h.2
      obtain ⟨Rn, rfl⟩ := Int.eq_ofNat_of_zero_le (show 0 ≤ R by omega)
      obtain ⟨Sn, rfl⟩ := Int.eq_ofNat_of_zero_le (show 0 ≤ S by omega)
      obtain ⟨pn, rfl⟩ := Int.eq_ofNat_of_zero_le hplace.1
      have hp1 : pn ≤ Rn := by rcases hplace.2 with h1 | h1 <;> omega
      have hp2 : rd = false → pn < Rn := fun h => by
        rcases hplace.2 with h1 | h1
        · omega
        · rw [h] at h1; exact absurd h1.1 (by simp)
      have hR0 : 0 < Rn := by omega
      have hR2 : Rn ≤ 200 := by omega
      have hS2 : Sn < 128 := by omega
      have CT : Hid (∀ V B f p rd, Sp V B Rn Sn f p rd → Calls Star.prog 8 #[.pointer (some ⟨B, 0, none⟩), .agg (rpC (Rn : Nat) (Sn : Nat) f (p : Nat) rd)] V fun e w' => e = .returned (.bool true) ∧ Below V.heap.size V w') := fun V B f p rd h => told_yes B Rn Sn f p rd _ _ V h
      clear hok hplace hkr hsu
      refine KEnv.wk_spine (lawEnv_tight W) [_, _, _, _, _] (x := _) (fun e a w h => ?_) (fun e a w T h => h) fun T => ?_
      · rcases h.1 with h | h
        · exact .inl h
        · exact .inr h
      have HT2 := Lib.hid (otab_taped HT1.out T)
      have HO2 : Hid (Opz (w1.taped T) A l) := Lib.hid HO1.out
      have HX2 := Lib.hid (hold_taped HX1.out T)
      clear HT1 HO1 HX1
      generalize w1.taped T = w2 at *
      refine wpSpine_cons ?_
      show Code.wp Star.prog _ _ _ _
      go_wp2_with (go_at_call 4; (with_reducible refine (CW.out _ HT2.out).mono ?_); rintro e w3 ⟨rfl, hb3⟩; have HO3 := Lib.hid (HO2.out.below hb3); have HX3 := Lib.hid (HX2.out.call hb3); have HT3 := Lib.hid (HT2.out.below hb3 (Nat.le_refl _)); clear hb3)
      clear HO2 HX2 HT2
      refine wpSpine_cons ?_
      show Code.wp Star.prog _ _ _ _
      go_wp2_with (go_at_call 5; (with_reducible refine (CL.out _ HO3.out).mono ?_); rintro e w4 ⟨rfl, hb4⟩; have HO4 := Lib.hid (HO3.out.below hb4); have HX4 := Lib.hid (HX3.out.call hb4); have HT4 := Lib.hid (HT3.out.below hb4 (Nat.le_refl _)); clear hb4)
      clear HO3 HX3 HT3
      have F4 := rpF HX4.out
      have q1 := F4.rate
      have q2 := F4.suf
      have q3 := F4.at'
      have q4 := F4.read
      have q5 := run_loadRp HX4.out
      clear F4
      refine wpSpine_cons ?_
      show Code.wp Star.prog _ _ _ _
      go_wp2_with (go_at_call 6; refine (CF.out _).mono ?_; intro e w5 h5; obtain ⟨B, rfl, hwB, hs5, hb5⟩ := h5.1 HOK.out; rw [Int.toNat_natCast, Int.toNat_natCast, Int.toNat_natCast] at hs5; have hlt4 := HX4.out.lt; have hgB : g < B := (by omega); have HO5 := Lib.hid (HO4.out.below hb5); have HX5 := Lib.hid (HX4.out.call hb5); have HT5 := Lib.hid (HT4.out.below hb5 (Nat.le_refl _)); have HS5 := Lib.hid hs5; clear h5 hb5 hs5 hwB hlt4 q1 q2 q3 q4 q5)
      clear HO4 HX4 HT4
      have q6 : (loadRow 26 (.pointer (some ⟨g, 0, none⟩))).run Star.prog w5 = .ok (.agg (rpC (Rn : Nat) (Sn : Nat) f (pn : Nat) rd)) w5 := HX5.out.load Star.underlying26 rfl (by kernel_rfl)
      refine wpSpine_cons ?_
      show Code.wp Star.prog _ _ _ _
      go_wp2_with (go_at_call 7; (with_reducible refine (CR.out _).mono ?_); rintro e w6 ⟨rfl, hb6⟩; have HQ6 : Hid (Q5 w6 g B Rn Sn f pn rd A l) := Lib.hid (Q5.below ⟨HS5.out, HX5.out, HT5.out, HO5.out⟩ hb6); clear hb6 q6)
      clear HO5 HX5 HT5 HS5
      have q6 : (loadRow 26 (.pointer (some ⟨g, 0, none⟩))).run Star.prog w6 = .ok (.agg (rpC (Rn : Nat) (Sn : Nat) f (pn : Nat) rd)) w6 := HQ6.out.rp.load Star.underlying26 rfl (by kernel_rfl)
      refine wpSpine_cons ?_
      show Code.wp Star.prog _ _ _ _
      go_wp2_with (go_at_call 8; (with_reducible refine (CT.out _ _ _ _ _ HQ6.out.sp).mono ?_); rintro e w7 ⟨rfl, hb7⟩; have HQ7 := Lib.hid (HQ6.out.below hb7); clear hb7 q6)
      have HBG : Hid (∀ v ∈ l, bigN v = false) := Lib.hid fun v hv => by
        have h := hlong
        unfold longB at h
        rw [Bool.or_eq_false_iff, List.any_eq_false] at h
        simpa using h.1 v hv
      have HL6 := Lib.hid (long_bs hlong hbl)
      clear HQ6 CW CL CF CR HOK hlong
      show KEnv.Wk (lawEnv W) _ _ _ _
      refine KEnv.wk_seq (lawEnv_tight W) (KEnv.wk_then (lawEnv_tight W) fun T1 => ?_)
      show Code.wp Star.prog _ _ _ _
      have HQ8 := Lib.hid (HQ7.out.taped T1)
      clear HQ7
      generalize w7.taped T1 = w8 at *
      go_wp2_with fail
      show KEnv.Wk (lawEnv W) _ _ _ _
      have hBW : W.heap.size ≤ B := by omega
      refine KEnv.wk_block (lawEnv_tight W) (KEnv.wk_loop (lawEnv_tight W) (I5 W g A c l Rn Sn) (fun n a w9 hI => ?_) (n := l.length) ⟨0, B, f, pn, rd, ⟨rfl, rfl, rfl, rfl, rfl, rfl, rfl⟩, rfl, Nat.zero_le _, hBW, hgB, hf, hp1, hp2, HQ8.out⟩)
      clear HQ8 hp1 hp2 hf hBW hgB
      obtain ⟨i, B, f, p, rd, hS5, rfl, hi, hBW, hgB, hf, hp1, hp2, hQ⟩ := hI
      obtain ⟨u, rfl⟩ := lit_of228 hS5.size hS5.defers
      have t2 : u 2 = .pointer (some ⟨g, 0, none⟩) := hS5.s2
      have t5 : u 5 = .pointer (some ⟨B, 0, none⟩) := hS5.s5
      have t57 : u 57 = .slice A l.length c := hS5.s57
      have t58 : u 58 = .int .i64 (l.length : Nat) := hS5.s58
      have t59 : u 59 = .int .i64 (i : Nat) := hS5.s59
      simp only [lit228, t2, t5, t57, t58, t59]
      clear hS5 t2 t5 t57 t58 t59
      have HQ9 := Lib.hid hQ
      clear hQ
      by_cases hil : i < l.length
      · obtain ⟨v, hvi⟩ : ∃ v, l[i]? = some v := ⟨l[i], List.getElem?_eq_getElem hil⟩
        have hokv := hv v (List.mem_of_getElem? hvi)
        have hil2 : decide ((i : Int) < (l.length : Int)) = true := decide_eq_true (by omega)
        have hil3 : (i : Int) < (l.length : Int) := by omega
        have hwi : IntKind.i64.wrap ((i : Int) + 1) = (i : Int) + 1 := by unfold maxLen at hc; rw [IntKind.wrap_i64]; omega
        have hofB : Hid (0 ≠ B) := Lib.hid (by omega)
        have hgne : Hid (g ≠ B) := Lib.hid (by omega)
        have hAB : Hid (∀ a, A = some a → a.block ≠ B) := Lib.hid fun a h => by have := hA a h; omega
        have hBB : Hid (∀ v ∈ l, ∀ a, v.A = some a → a.block ≠ B) := Lib.hid fun v hv a h => by have := hB v hv a h; omega
        obtain ⟨b, o, rfl, -⟩ := HQ9.out.oz i v hvi
        have hk5 : v.kind % 5 = 0 ∨ v.kind % 5 = 1 ∨ v.kind % 5 = 2 ∨ v.kind % 5 = 3 ∨ v.kind % 5 = 4 := by omega
        have HI := Lib.hid hvi
        have hcs : (opC v).size = 3 := rfl
        have hco := opC_ones v
        replace hk5 : (v.kind % 5 = 0 ∨ v.kind % 5 = 1) ∨ v.kind % 5 = 2 ∨ v.kind % 5 = 3 ∨ v.kind % 5 = 4 := by omega
        rcases hk5 with hk | hk | hk | hk
        · -- a write
          refine KEnv.wk_then (lawEnv_tight W) fun T4 => ?_
          show Code.wp Star.prog _ _ _ _
          have HQ10 := Lib.hid (HQ9.out.taped T4)
          clear HQ9
          generalize w9.taped T4 = w10 at *
          go_wp2_with fail
          show KEnv.Wk (lawEnv W) _ _ _ _
          refine KEnv.wk_then (lawEnv_tight W) fun T5 => ?_
          show Code.wp Star.prog _ _ _ _
          have HQ11 := Lib.hid (HQ10.out.taped T5)
          clear HQ10
          generalize w10.taped T5 = w11 at *
          go_wp2_with fail
          show KEnv.Wk (lawEnv W) _ _ _ _
          refine KEnv.wk_seq (lawEnv_tight W) (KEnv.wk_block (lawEnv_tight W) (KEnv.wk_then (lawEnv_tight W) fun T6 => ?_))
          show Code.wp Star.prog _ _ _ _
          have HQ12 := Lib.hid (HQ11.out.taped T6)
          clear HQ11
          generalize w11.taped T6 = w12 at *
          have l1 := run_loadO HQ12.out.oz HI.out rfl
          have l2 := run_storeO (Hold.new w12 (#[.int .u8 0, .slice none 0 0, .int .i64 0] : Array Value) 38 3 rfl).ok hcs hco
          go_wp2_with fail
          show KEnv.Wk (lawEnv W) _ _ _ _
          have HQ13 := Lib.hid (HQ12.out.below ((Below.refl w12.heap.size w12).alloc (Nat.le_refl _) (.cells (opC v) 38)))
          have HOA := Lib.hid (Hold.new w12 (opC v) 38 3 hcs)
          have hBo := HQ12.out.sp.lt
          clear l1 l2 HQ12
          generalize w12.alloc (.cells (opC v) 38) = w13 at *
          generalize w12.heap.size = o1 at *
          refine KEnv.wk_seq (lawEnv_tight W) (KEnv.wk_end (lawEnv_tight W) .normal (M := fun a w => S6 a g (some ⟨b, o, none⟩) l.length c i B o1 ∧ Q5 w g B Rn Sn f p rd (some ⟨b, o, none⟩) l ∧ Hold w o1 3 (opC v)) (fun a w T h => ⟨h.1, h.2.1.taped T, hold_taped h.2.2 T⟩) (fun a wa h => ?_) (fun T => ?_))
          rotate_left
          · show Code.wp Star.prog _ _ _ _
            have HQ14 := Lib.hid (HQ13.out.taped T)
            have HO14 := Lib.hid (hold_taped HOA.out T)
            clear HQ13 HOA
            generalize w13.taped T = w14 at *
            have c2 : w14.cell? ⟨o1, 2, none⟩ = some (.int .i64 v.N) := HO14.out.cell (i := 2) rfl
            have hN3 : v.N < 0 ∨ (¬ v.N < 0 ∧ (1048576 : Int) < v.N) ∨ (¬ v.N < 0 ∧ ¬ (1048576 : Int) < v.N) := by omega
            rcases hN3 with hn1 | ⟨hn1, hn2⟩ | ⟨hn1, hn2⟩
            all_goals
              go_wp2_with fail
              exact ⟨⟨rfl, rfl, rfl, rfl, rfl, rfl, rfl, rfl⟩, HQ14.out, HO14.out⟩
          clear HQ13 HOA
          obtain ⟨hS6, hQ13, hO13⟩ := h
          show KEnv.Wk (lawEnv W) _ _ a _
          obtain ⟨u, rfl⟩ := lit_of228 hS6.size hS6.defers
          have t2 : u 2 = .pointer (some ⟨g, 0, none⟩) := hS6.s2
          have t5 : u 5 = .pointer (some ⟨B, 0, none⟩) := hS6.s5
          have t8 : u 8 = .pointer (some ⟨o1, 0, none⟩) := hS6.s8
          have t57 : u 57 = .slice (some ⟨b, o, none⟩) l.length c := hS6.s57
          have t58 : u 58 = .int .i64 (l.length : Nat) := hS6.s58
          have t59 : u 59 = .int .i64 (i : Nat) := hS6.s59
          simp only [lit228, t2, t5, t8, t57, t58, t59]
          clear hS6 t2 t5 t8 t57 t58 t59
          have HQ13 := Lib.hid hQ13
          have HO13 := Lib.hid hO13
          clear hQ13 hO13
          refine KEnv.wk_seq (lawEnv_tight W) (KEnv.wk_then (lawEnv_tight W) fun T => ?_)
          show Code.wp Star.prog _ _ _ _
          have HQ14 := Lib.hid (HQ13.out.taped T)
          have HO14 := Lib.hid (hold_taped HO13.out T)
          clear HQ13 HO13
          generalize wa.taped T = w14 at *
          have c0 : w14.cell? ⟨o1, 0, none⟩ = some (.int .u8 (v.kind : Nat)) := HO14.out.cell (i := 0) rfl
          go_wp2_with fail
          clear c0
          show KEnv.Wk (lawEnv W) _ _ _ _
          refine KEnv.wk_block (lawEnv_tight W) (KEnv.wk_seq (lawEnv_tight W) (KEnv.wk_end (lawEnv_tight W) .normal (M := fun a w => (S6 a g (some ⟨b, o, none⟩) l.length c i B o1 ∧ a.tmps.getD 81 undef = .bool true) ∧ Q5 w g B Rn Sn f p rd (some ⟨b, o, none⟩) l ∧ Hold w o1 3 (opC v)) (fun a w T h => ⟨h.1, h.2.1.taped T, hold_taped h.2.2 T⟩) (fun a wb h => ?_) (fun T => ?_)))
          rotate_left
          · show Code.wp Star.prog _ _ _ _
            have HQ15 := Lib.hid (HQ14.out.taped T)
            have HO15 := Lib.hid (hold_taped HO14.out T)
            clear HQ14 HO14
            generalize w14.taped T = w15 at *
            rcases hk with hk | hk
            · go_wp2_with fail
              exact ⟨⟨rfl, rfl, rfl, rfl, rfl, rfl, rfl, rfl⟩, HQ15.out, HO15.out⟩
            · have hkI : (v.kind : Int) % 5 = 1 := by omega
              go_wp2_with fail
              exact ⟨⟨rfl, rfl, rfl, rfl, rfl, rfl, rfl, rfl⟩, HQ15.out, HO15.out⟩
          clear HQ14 HO14
          obtain ⟨⟨hS6, h81⟩, hQ15, hO15⟩ := h
          show KEnv.Wk (lawEnv W) _ _ a _
          obtain ⟨u, rfl⟩ := lit_of228 hS6.size hS6.defers
          have t2 : u 2 = .pointer (some ⟨g, 0, none⟩) := hS6.s2
          have t5 : u 5 = .pointer (some ⟨B, 0, none⟩) := hS6.s5
          have t8 : u 8 = .pointer (some ⟨o1, 0, none⟩) := hS6.s8
          have t57 : u 57 = .slice (some ⟨b, o, none⟩) l.length c := hS6.s57
          have t58 : u 58 = .int .i64 (l.length : Nat) := hS6.s58
          have t59 : u 59 = .int .i64 (i : Nat) := hS6.s59
          have t81 : u 81 = .bool true := h81
          simp only [lit228, t2, t5, t8, t57, t58, t59, t81]
          clear hS6 h81 t2 t5 t8 t57 t58 t59 t81
          have HQ15 := Lib.hid hQ15
          have HO15 := Lib.hid hO15
          clear hQ15 hO15
          refine KEnv.wk_cond (lawEnv_tight W) (t := true) rfl ?_
          show KEnv.Wk (lawEnv W) (.seq _ _) _ _ _
          refine KEnv.wk_seq (lawEnv_tight W) (KEnv.wk_region (lawEnv_tight W) ?_)
          show KEnv.Ops (lawEnv W) _ [0, 1, 2, 3, 4, 5, 6, 7, 8] _ _ _
          have c1 : wb.cell? ⟨o1, 1, none⟩ = some (.slice v.A v.bs.length v.c) := HO15.out.cell (i := 1) rfl
          refine KEnv.ops_value (lawEnv_tight W) (v := .pointer (some ⟨B, 0, none⟩)) rfl rfl (fun T => rfl) ?_
          show KEnv.Ops (lawEnv W) _ [1, 2, 3, 4, 5, 6, 7, 8] _ (Go.Act.put _ (some 85) _) _
          refine KEnv.ops_value (lawEnv_tight W) (v := .pointer (some ⟨o1, 1, none⟩)) rfl rfl (fun T => ?_) ?_
          · show (execOp _ _).run Star.prog _ = _
            simp only [Go.Act.put, List.setIfInBounds_toArray, List.set_cons_succ, List.set_cons_zero]
            clear c1
            go_simp
          show KEnv.Ops (lawEnv W) _ [2, 3, 4, 5, 6, 7, 8] _ (Go.Act.put _ (some 86) _) _
          refine KEnv.ops_value (lawEnv_tight W) (v := .slice v.A v.bs.length v.c) rfl rfl (fun T => ?_) ?_
          · show (execOp _ _).run Star.prog _ = _
            have c1' : (wb.taped T).cell? ⟨o1, 1, none⟩ = some (.slice v.A v.bs.length v.c) := c1
            simp only [Go.Act.put, List.setIfInBounds_toArray, List.set_cons_succ, List.set_cons_zero]
            generalize wb.taped T = wt at *
            clear c1
            go_simp
          show KEnv.Ops (lawEnv W) _ [3, 4, 5, 6, 7, 8] _ (Go.Act.put _ (some 87) _) _
          obtain ⟨b', o', e0, -, -, -, hwv⟩ := HQ15.out.oz i v HI.out
          have hvl := List.mem_of_getElem? HI.out
          refine KEnv.ops_hard (nB := 9) (nC := Tryd.prog.funcs.size) (args := #[.tmp 85, .tmp 87]) rfl rfl (by rw [Star.hard]; rfl) (by have h := fun a b => @hard_no a b; exact h _ _) (fun q hq => by have h := fun a b => @hard_spec a b; exact h _ _ q hq) ?_ callW calleW (Post := WPost wb B Rn Sn f p rd v.bs) (fun ρ fr rs w' vals' J hK hro hrd hv => ?_) (fun x w16 hp => ?_)
          · intro x hx; simp at hx; rcases hx with rfl | rfl <;> trivial
          · exact write_act tight (by show lawB _ = true; kernel_rfl) HQ15.out.sp HQ15.out.ot hwv hokv.lt hokv.room (fun a h => hBB.out v hvl a h) hf hp2 (by omega) (fun h => by
              have h : isCells W B = true := h
              obtain ⟨_, _, _, h⟩ := isCells_get h
              have := (Array.getElem?_eq_some_iff.1 h).1
              omega) hofB.out ρ fr rs w' vals' J hK hro hrd (by rw [map2] at hv; exact hv)
          · have hob : o1 ≠ B := by omega
            have hgl := HQ15.out.rp.lt
            rcases hp with ⟨hrd, hx, ht⟩ | ⟨hrd, hx, ht⟩
            · subst hrd hx
              obtain ⟨hs16, hp16, ho16, hz16⟩ := HQ15.out.turns ht hgne.out hofB.out hAB.out hBB.out
              have HQ16 : Hid (Q5 w16 g B Rn Sn f p true (some ⟨b, o, none⟩) l) := Lib.hid ⟨hs16, hp16, ho16, hz16⟩
              have HO16 := Lib.hid (HO15.out.turns ht hob)
              clear ht hs16 hp16 ho16 hz16 HQ15 HO15 c1 hwv e0
              show KEnv.Ops (lawEnv W) _ (List.range' 4 5) _ (Go.Act.put _ (some 88) _) _
              refine KEnv.ops_tail (lawEnv_tight W) 4 (fun a w T h => KEnv.wk_tape h T) fun T => ?_
              simp only [List.drop_succ_cons, List.drop_zero, Go.Act.put, List.setIfInBounds_toArray, List.set_cons_succ, List.set_cons_zero]
              show wpList Star.prog _ _ _ _ _
              have HQ17 := Lib.hid (HQ16.out.taped T)
              have HO17 := Lib.hid (hold_taped HO16.out T)
              clear HQ16 HO16
              generalize w16.taped T = w17 at *
              go_wp2_with fail
              show KEnv.Wk (lawEnv W) _ _ _ _
              refine KEnv.wk_endk (lawEnv_tight W) (fun a w h => h) fun T2 => ?_
              show Code.wp Star.prog _ _ _ _
              have HQ18 := Lib.hid (HQ17.out.taped T2)
              have HO18 := Lib.hid (hold_taped HO17.out T2)
              clear HQ17 HO17
              generalize w17.taped T2 = w18 at *
              have q4 := (rpF HQ18.out.rp).read
              go_wp2_with fail
              show KEnv.Wk (lawEnv W) _ _ _ _
              refine KEnv.wk_endk (lawEnv_tight W) (fun a w h => h) fun T3 => ?_
              show Code.wp Star.prog _ _ _ _
              have HQ19 := Lib.hid (HQ18.out.taped T3)
              clear HQ18 HO18
              generalize w18.taped T3 = w19 at *
              have q7 : (loadRow 26 (.pointer (some ⟨g, 0, none⟩))).run Star.prog w19 = .ok (.agg (rpC (Rn : Nat) (Sn : Nat) f (p : Nat) true)) w19 := HQ19.out.rp.load Star.underlying26 rfl (by kernel_rfl)
              go_wp2_with (go_at_call 8; (with_reducible refine (CT.out _ _ _ _ _ HQ19.out.sp).mono ?_); rintro e w20 ⟨rfl, hb20⟩; have HQ20 := Lib.hid (HQ19.out.below hb20); clear hb20 q7)
              show KEnv.Wk (lawEnv W) _ _ _ _
              refine KEnv.wk_end (lawEnv_tight W) .normal (M := I5 W g (some ⟨b, o, none⟩) c l Rn Sn (l.length - (i + 1))) (fun a w T h => h.taped T) (fun a w h => ⟨_, by omega, h⟩) fun T4 => ?_
              show Code.wp Star.prog _ _ _ _
              have HQ21 := Lib.hid (HQ20.out.taped T4)
              clear HQ20
              generalize w20.taped T4 = w21 at *
              go_wp2_with fail
              exact ⟨i + 1, B, f, p, true, ⟨rfl, rfl, rfl, rfl, rfl, rfl, by rw [Int.natCast_add]; rfl⟩, rfl, by omega, by omega, by omega, hf, hp1, hp2, HQ21.out⟩
            · subst hrd
              have hp3 := hp2 rfl
              rw [wrP_wB _ Rn _ _ _ hR0 hp3 hokv.lt (Nat.le_refl _)] at ht
              subst hx
              obtain ⟨F, hF⟩ : ∃ F, F = (wB Rn f p v.bs).1 := ⟨_, rfl⟩
              obtain ⟨P, hP⟩ : ∃ P, P = (wB Rn f p v.bs).2 := ⟨_, rfl⟩
              have hFl : ∀ i, F i < 18446744073709551616 := by rw [hF]; exact wB_lt Rn _ _ _ hf hokv.lt
              have hPl : P < Rn := by rw [hP, wB_at Rn hR0 _ _ _ hp3]; exact Nat.mod_lt _ hR0
              have hPl2 : P ≤ Rn := Nat.le_of_lt hPl
              have hlen := HL6.out v hvl
              have HRW : Hid (∀ V, Words .u8 V v.A v.bs → Calls Star.prog 10 #[.agg (rpC (Rn : Nat) (Sn : Nat) f (p : Nat) false), .slice v.A v.bs.length v.c] V fun e w' => e = .returned (.agg (rpC (Rn : Nat) (Sn : Nat) F (P : Nat) false)) ∧ Below V.heap.size V w') := Lib.hid fun V hw => by
                rw [hF, hP]
                exact refWrite15_any Rn (Sn : Nat) f hf p hR0 hR2 hp3 false v.A v.c v.bs hokv.lt (by omega) hokv.room V hw
              rw [← hF, ← hP] at ht
              clear hF hP
              obtain ⟨hs16, hp16, ho16, hz16⟩ := HQ15.out.turns ht hgne.out hofB.out hAB.out hBB.out
              have HS16 := Lib.hid hs16
              have HP16 := Lib.hid hp16
              have HT16 := Lib.hid ho16
              have HZ16 := Lib.hid hz16
              have HO16 := Lib.hid (HO15.out.turns ht hob)
              clear ht hs16 hp16 ho16 hz16 HQ15 HO15 c1 hwv e0
              show KEnv.Ops (lawEnv W) _ (List.range' 4 5) _ (Go.Act.put _ (some 88) _) _
              refine KEnv.ops_tail (lawEnv_tight W) 4 (fun a w T h => KEnv.wk_tape h T) fun T => ?_
              simp only [List.drop_succ_cons, List.drop_zero, Go.Act.put, List.setIfInBounds_toArray, List.set_cons_succ, List.set_cons_zero]
              show wpList Star.prog _ _ _ _ _
              have HS17 := Lib.hid (hold_taped HS16.out T)
              have HP17 := Lib.hid (hold_taped HP16.out T)
              have HT17 := Lib.hid (otab_taped HT16.out T)
              have HZ17 : Hid (Opz (w16.taped T) (some ⟨b, o, none⟩) l) := Lib.hid HZ16.out
              have HO17 := Lib.hid (hold_taped HO16.out T)
              clear HS16 HP16 HT16 HZ16 HO16
              generalize w16.taped T = w17 at *
              go_wp2_with fail
              show KEnv.Wk (lawEnv W) _ _ _ _
              refine KEnv.wk_endk (lawEnv_tight W) (fun a w h => h) fun T2 => ?_
              show Code.wp Star.prog _ _ _ _
              have HS18 := Lib.hid (hold_taped HS17.out T2)
              have HP18 := Lib.hid (hold_taped HP17.out T2)
              have HT18 := Lib.hid (otab_taped HT17.out T2)
              have HZ18 : Hid (Opz (w17.taped T2) (some ⟨b, o, none⟩) l) := Lib.hid HZ17.out
              have HO18 := Lib.hid (hold_taped HO17.out T2)
              clear HS17 HP17 HT17 HZ17 HO17
              generalize w17.taped T2 = w18 at *
              have q4 := (rpF HP18.out).read
              have c1 : w18.cell? ⟨o1, 1, none⟩ = some (.slice v.A v.bs.length v.c) := HO18.out.cell (i := 1) rfl
              have q7 : (loadRow 26 (.pointer (some ⟨g, 0, none⟩))).run Star.prog w18 = .ok (.agg (rpC (Rn : Nat) (Sn : Nat) f (p : Nat) false)) w18 := HP18.out.load Star.underlying26 rfl (by kernel_rfl)
              obtain ⟨b', o', e0, -, -, -, hwv⟩ := HZ18.out i v HI.out
              have HWV := Lib.hid hwv
              have hgA : Hid (∀ a, (some ⟨b, o, none⟩ : Option Addr) = some a → a.block ≠ g) := Lib.hid fun a h => by have := hA a h; omega
              have hgB2 : Hid (∀ v ∈ l, ∀ a, v.A = some a → a.block ≠ g) := Lib.hid fun v hv a h => by have := hB v hv a h; omega
              have hofg : Hid (0 ≠ g) := Lib.hid (by omega)
              clear e0 hwv
              go_wp2_with (go_at_call 10; refine (HRW.out _ HWV.out).mono ?_; rintro e w19 ⟨rfl, hb19⟩; have hpG := HP18.out.call hb19; have q9 := run_storeR hpG.ok (rpC_size (Rn : Nat) (Sn : Nat) F (P : Nat) false) (rpC_ones (Rn : Nat) (Sn : Nat) F (P : Nat) false); have htg := Turns.set0 hpG (rpC_size (Rn : Nat) (Sn : Nat) F (P : Nat) false); have HQ18 : Hid (Q5 (w19.setRow g (rpC (Rn : Nat) (Sn : Nat) F (P : Nat) false)) g B Rn Sn F P false (some ⟨b, o, none⟩) l) := Lib.hid ⟨(HS18.out.call hb19).turns htg (by omega), htg.row, (HT18.out.below hb19 (Nat.le_refl _)).turns htg hofg.out, opz_turns htg (HZ18.out.below hb19) hgA.out hgB2.out⟩; clear hb19 hpG htg)
              generalize w19.setRow g (rpC (Rn : Nat) (Sn : Nat) F (P : Nat) false) = w18 at *
              show KEnv.Wk (lawEnv W) _ _ _ _
              refine KEnv.wk_endk (lawEnv_tight W) (fun a w h => h) fun T3 => ?_
              show Code.wp Star.prog _ _ _ _
              have HQ19 := Lib.hid (HQ18.out.taped T3)
              clear HQ18 HO18
              generalize w18.taped T3 = w19 at *
              have q7 : (loadRow 26 (.pointer (some ⟨g, 0, none⟩))).run Star.prog w19 = .ok (.agg (rpC (Rn : Nat) (Sn : Nat) F (P : Nat) false)) w19 := HQ19.out.rp.load Star.underlying26 rfl (by kernel_rfl)
              go_wp2_with (go_at_call 8; (with_reducible refine (CT.out _ _ _ _ _ HQ19.out.sp).mono ?_); rintro e w20 ⟨rfl, hb20⟩; have HQ20 := Lib.hid (HQ19.out.below hb20); clear hb20 q7)
              show KEnv.Wk (lawEnv W) _ _ _ _
              refine KEnv.wk_end (lawEnv_tight W) .normal (M := I5 W g (some ⟨b, o, none⟩) c l Rn Sn (l.length - (i + 1))) (fun a w T h => h.taped T) (fun a w h => ⟨_, by omega, h⟩) fun T4 => ?_
              show Code.wp Star.prog _ _ _ _
              have HQ21 := Lib.hid (HQ20.out.taped T4)
              clear HQ20
              generalize w20.taped T4 = w21 at *
              go_wp2_with fail
              exact ⟨i + 1, B, F, P, false, ⟨rfl, rfl, rfl, rfl, rfl, rfl, by rw [Int.natCast_add]; rfl⟩, rfl, by omega, by omega, by omega, hFl, hPl2, fun _ => hPl, HQ21.out⟩
        · -- a read
          refine KEnv.wk_end (lawEnv_tight W) .normal (M := I5 W g (some ⟨b, o, none⟩) c l Rn Sn (l.length - (i + 1))) (fun a w T h => h.taped T) (fun a w h => ⟨_, by omega, h⟩) fun T4 => ?_
          show Code.wp Star.prog _ _ _ _
          have HQ10 := Lib.hid (HQ9.out.taped T4)
          clear HQ9
          generalize w9.taped T4 = w10 at *
          have l1 := run_loadO HQ10.out.oz HI.out rfl
          have l2 := run_storeO (Hold.new w10 (#[.int .u8 0, .slice none 0 0, .int .i64 0] : Array Value) 38 3 rfl).ok hcs hco
          have e0 : (opC v)[0]'(by rw [hcs]; omega) = .int .u8 (v.kind : Nat) := rfl
          have e1 : (opC v)[1]'(by rw [hcs]; omega) = .slice v.A v.bs.length v.c := rfl
          have e2 : (opC v)[2]'(by rw [hcs]; omega) = .int .i64 v.N := rfl
          have HQA := Lib.hid (HQ10.out.below ((Below.refl w10.heap.size w10).alloc (Nat.le_refl _) (.cells (opC v) 38)))
          have HOA := Lib.hid (Hold.new w10 (opC v) 38 3 hcs)
          have hwid := HQ10.out.sp.lt
          by_cases hbad : readB v.N = true
          · have hN2 : 0 ≤ v.N ∧ v.N ≤ 1048576 := by unfold readB at hbad; simpa using hbad
            obtain ⟨N, hN⟩ := Int.eq_ofNat_of_zero_le hN2.1
            rw [hN] at hN2 e2
            have hn1 : ¬ ((N : Int) < 0) := by omega
            have hn2 : ¬ ((1048576 : Int) < (N : Int)) := by omega
            have hNl : N ≤ 1048576 := by omega
            have hN5 : N ≤ 500 := by
              have h := HBG.out v (List.mem_of_getElem? HI.out)
              unfold bigN at h
              rw [hN] at h
              simp only [Bool.and_eq_false_iff, decide_eq_false_iff_not] at h
              omega
            have hob : Hid (w10.heap.size ≠ B) := Lib.hid (by omega)
            clear hN2 hbad
            rcases Nat.eq_zero_or_pos N with hN0 | hN0
            · subst hN0
              have HRD : Hid (∀ V, Sp V B Rn Sn f p rd → OTab V → Calls Star.prog 11 #[.pointer (some ⟨B, 0, none⟩), .int .i64 0] V fun e w' => ∃ A' c', e = .returned (.tuple #[.slice A' 0 c', .int .i64 0]) ∧ Turns B 29 (spC Rn Sn f p rd) V w') := fun V h1 h2 => by
                refine (read_any B Rn Sn f hf p hR0 hR2 (by omega) hp1 rd 0 (by omega) V h1 h2 hofB.out).mono ?_
                rintro e w' ⟨v', rfl, h3, h4⟩
                obtain ⟨A', c', hv', -⟩ := h3.words
                rw [sqB_length] at hv'
                rw [show rdF Rn Sn f p rd 0 = f from if_neg (by simp), show rdP p rd 0 = p from if_neg (by simp), show rdR rd 0 = rd by unfold rdR; simp] at h4
                exact ⟨A', c', by rw [hv'], h4⟩
              go_wp2_with (first
                | (go_at_call 11; refine (HRD.out _ HQA.out.sp HQA.out.ot).mono ?_; rintro e w11 ⟨A11, c11, rfl, ht11⟩; obtain ⟨hs11, hp11, ho11, hz11⟩ := HQA.out.turns ht11 hgne.out hofB.out hAB.out hBB.out; have HQ11 : Hid (Q5 w11 g B Rn Sn f p rd (some ⟨b, o, none⟩) l) := Lib.hid ⟨hs11, hp11, ho11, hz11⟩; have c2 : w11.cell? ⟨w10.heap.size, 2, none⟩ = some (.int .i64 0) := (HOA.out.turns ht11 hob.out).cell (i := 2) (congrArg (fun z => some (Value.int .i64 z)) hN); have q7 : (loadRow 26 (.pointer (some ⟨g, 0, none⟩))).run Star.prog (w11) = .ok (.agg (rpC (Rn : Nat) (Sn : Nat) f (p : Nat) rd)) (w11) := hp11.load Star.underlying26 rfl (by kernel_rfl); clear ht11 hs11 hp11 ho11 hz11 l1 l2)
                | (go_at_call 8; (with_reducible refine (CT.out _ _ _ _ _ HQ11.out.sp).mono ?_); rintro e w13 ⟨rfl, hb13⟩; have HQ13 := Lib.hid (HQ11.out.below hb13); clear hb13 q7))
              exact ⟨i + 1, B, f, p, rd, ⟨rfl, rfl, rfl, rfl, rfl, rfl, by rw [Int.natCast_add]; rfl⟩, rfl, by omega, by omega, by omega, hf, hp1, hp2, HQ13.out⟩
            · have hN00 : (0 : Int) < (N : Int) := by omega
              obtain ⟨F, hF⟩ : ∃ F, F = sqF Rn N (rdF Rn Sn f p rd N) (rdP p rd N) := ⟨_, rfl⟩
              obtain ⟨P, hP⟩ : ∃ P, P = sqP Rn N (rdP p rd N) := ⟨_, rfl⟩
              obtain ⟨YS, hY⟩ : ∃ YS, YS = sqB Rn N (rdF Rn Sn f p rd N) (rdP p rd N) := ⟨_, rfl⟩
              have hFl : ∀ i, F i < 18446744073709551616 := by rw [hF]; exact fun i => sqF_lt Rn N _ _ (fun i => rdF_lt hf i) i
              have hPl : P ≤ Rn := by rw [hP]; exact sqP_le Rn hR0 N _ (rdP_le hp1)
              have hYl : YS.length = N := by rw [hY]; exact sqB_length _ _ _ _
              have hYt : AllLt 256 YS := by rw [hY]; exact sqB_lt _ _ _ _
              have hrdR : rdR rd N = true := by unfold rdR; simp [hN0]
              have HRD : Hid (∀ V, Sp V B Rn Sn f p rd → OTab V → Calls Star.prog 11 #[.pointer (some ⟨B, 0, none⟩), .int .i64 (N : Nat)] V fun e w' => ∃ A' c', e = .returned (.tuple #[.slice A' N c', .int .i64 0]) ∧ Row .u8 5 V.heap.size w' (.slice A' N c') YS ∧ Turns B 29 (spC Rn Sn F P true) V w') := fun V h1 h2 => by
                refine (read_any B Rn Sn f hf p hR0 hR2 (by omega) hp1 rd N hNl V h1 h2 hofB.out).mono ?_
                rintro e w' ⟨v', rfl, h3, h4⟩
                rw [← hY] at h3
                rw [← hF, ← hP, hrdR] at h4
                obtain ⟨A', c', rfl, -⟩ := h3.words
                rw [hYl] at h3 ⊢
                exact ⟨A', c', rfl, h3, h4⟩
              have HRR : Hid (∀ V, Calls Star.prog 12 #[.agg (rpC (Rn : Nat) (Sn : Nat) f (p : Nat) rd), .int .i64 (N : Nat)] V fun e w' => ∃ A' c', e = .returned (.agg (gtC (rpC (Rn : Nat) (Sn : Nat) F (P : Nat) true) (.slice A' N c'))) ∧ Words .u8 w' A' YS ∧ Below V.heap.size V w' ∧ ∀ a, A' = some a → V.heap.size ≤ a.block) := fun V => by
                have h := refRead15_any Rn Sn f hf p hR0 hR2 (by omega) hp1 rd N hN0 hNl V
                rw [← hF, ← hP, ← hY] at h
                exact h
              have HSM : Hid (∀ V A c B d, Words .u8 V A YS → Words .u8 V B YS → Calls Star.prog 13 #[.slice A N c, .slice B N d] V fun e w' => e = .returned (.bool true) ∧ Below V.heap.size V w') := fun V A c B d h1 h2 => same_told hYl hYt (by omega) V A c B d h1 h2
              clear hF hP hY hrdR
              have hgA : Hid (∀ a, (some ⟨b, o, none⟩ : Option Addr) = some a → a.block ≠ g) := Lib.hid fun a h => by have := hA a h; omega
              have hgB2 : Hid (∀ v ∈ l, ∀ a, v.A = some a → a.block ≠ g) := Lib.hid fun v hv a h => by have := hB v hv a h; omega
              have hofg : Hid (0 ≠ g) := Lib.hid (by omega)
              go_wp2_with (first
                | (go_at_call 11; refine (HRD.out _ HQA.out.sp HQA.out.ot).mono ?_; rintro e w11 ⟨A11, c11, rfl, hr11, ht11⟩; obtain ⟨hs11, hp11, ho11, hz11⟩ := HQA.out.turns ht11 hgne.out hofB.out hAB.out hBB.out; have HS11 := Lib.hid hs11; have HP11 := Lib.hid hp11; have HO11 := Lib.hid ho11; have HZ11 := Lib.hid hz11; have HR11 := Lib.hid hr11; have c2 : w11.cell? ⟨w10.heap.size, 2, none⟩ = some (.int .i64 (N : Nat)) := (HOA.out.turns ht11 hob.out).cell (i := 2) (congrArg (fun z => some (Value.int .i64 z)) hN); have q7 : (loadRow 26 (.pointer (some ⟨g, 0, none⟩))).run Star.prog w11 = .ok (.agg (rpC (Rn : Nat) (Sn : Nat) f (p : Nat) rd)) w11 := hp11.load Star.underlying26 rfl (by kernel_rfl); clear ht11 hs11 hp11 ho11 hz11 hr11 l1 l2)
                | (go_at_call 12; refine (HRR.out w11).mono ?_; rintro e w12 ⟨A12, c12, rfl, hw12, hb12, hfr12⟩; have hst := run_storeG (c' := gtC (rpC (Rn : Nat) (Sn : Nat) F (P : Nat) true) (.slice A12 N c12)) (Hold.new w12 (gtC (rpC 0 0 (fun _ => 0) 0 false) (.slice none 0 0)) 45 30 (gtC_size (rpC_size _ _ _ _ _))).ok (gtC_size (rpC_size _ _ _ _ _)) (gtC_ones _ _ _ _ _ _ _ _); have hbG := hb12.trans (((Below.refl w12.heap.size w12).alloc (Nat.le_refl _) (.cells (gtC (rpC (Rn : Nat) (Sn : Nat) F (P : Nat) true) (.slice A12 N c12)) 45)).mono hb12.size); have hgt := Hold.new w12 (gtC (rpC (Rn : Nat) (Sn : Nat) F (P : Nat) true) (.slice A12 N c12)) 45 30 (gtC_size (rpC_size _ _ _ _ _)); have q8 := run_loadGS hgt; have hpG := HP11.out.call hbG; have q9 := run_storeR hpG.ok (rpC_size (Rn : Nat) (Sn : Nat) F (P : Nat) true) (rpC_ones (Rn : Nat) (Sn : Nat) F (P : Nat) true); have hgl := HP11.out.lt; have hgb : w12.heap.size ≠ g := (by have := hb12.size; omega); have htg := Turns.set0 hpG (rpC_size (Rn : Nat) (Sn : Nat) F (P : Nat) true); have HQG : Hid (Q5 ((w12.alloc (.cells (gtC (rpC (Rn : Nat) (Sn : Nat) F (P : Nat) true) (.slice A12 N c12)) 45)).setRow g (rpC (Rn : Nat) (Sn : Nat) F (P : Nat) true)) g B Rn Sn F P true (some ⟨b, o, none⟩) l) := Lib.hid ⟨(HS11.out.call hbG).turns htg (by omega), htg.row, (HO11.out.below hbG (Nat.le_refl _)).turns htg hofg.out, opz_turns htg (HZ11.out.below hbG) hgA.out hgB2.out⟩; have c29 : ((w12.alloc (.cells (gtC (rpC (Rn : Nat) (Sn : Nat) F (P : Nat) true) (.slice A12 N c12)) 45)).setRow g (rpC (Rn : Nat) (Sn : Nat) F (P : Nat) true)).cell? ⟨w12.heap.size, 29, none⟩ = some (.slice A12 N c12) := (hgt.turns htg hgb).cell rfl; have hgw : g < (w10.alloc (.cells (opC v) 38)).heap.size := HQA.out.rp.lt; obtain ⟨A11', c11', hA11, hwA⟩ := HR11.out.words; have HW11 : Hid (Words .u8 ((w12.alloc (.cells (gtC (rpC (Rn : Nat) (Sn : Nat) F (P : Nat) true) (.slice A12 N c12)) 45)).setRow g (rpC (Rn : Nat) (Sn : Nat) F (P : Nat) true)) A11 YS) := Lib.hid (words_turns htg (by (injection hA11 with h1 h2 h3); rw [h1]; exact Words.below hwA hbG (Nat.le_refl _)) (fun a h => by have := row_far15 HR11.out a h; omega)); have HW12 : Hid (Words .u8 ((w12.alloc (.cells (gtC (rpC (Rn : Nat) (Sn : Nat) F (P : Nat) true) (.slice A12 N c12)) 45)).setRow g (rpC (Rn : Nat) (Sn : Nat) F (P : Nat) true)) A12 YS) := Lib.hid (words_turns htg (Words.below hw12 ((Below.refl w12.heap.size w12).alloc (Nat.le_refl _) _) (Nat.le_refl _)) (fun a h => by have := hfr12 a h; omega)); have hg12 : g < w12.heap.size := (by have := hb12.size; omega); rw [setRow_alloc_past hg12] at HQG c29 HW11 HW12; clear hfr12 hw12 hb12 hbG hgt hpG hgl htg hgw hwA hA11 hg12)
                | (go_at_call 13; (with_reducible refine (HSM.out _ _ _ _ _ HW11.out HW12.out).mono ?_); rintro e w14 ⟨rfl, hb14⟩; have HQ14 := Lib.hid (HQG.out.below hb14); have q7 : (loadRow 26 (.pointer (some ⟨g, 0, none⟩))).run Star.prog w14 = .ok (.agg (rpC (Rn : Nat) (Sn : Nat) F (P : Nat) true)) w14 := HQ14.out.rp.load Star.underlying26 rfl (by kernel_rfl); clear hb14)
                | (go_at_call 8; (with_reducible refine (CT.out _ _ _ _ _ HQ14.out.sp).mono ?_); rintro e w13 ⟨rfl, hb13⟩; have HQ13 := Lib.hid (HQ14.out.below hb13); clear hb13 q7))
              exact ⟨i + 1, B, F, P, true, ⟨rfl, rfl, rfl, rfl, rfl, rfl, by rw [Int.natCast_add]; rfl⟩, rfl, by omega, by omega, by omega, hFl, hPl, (fun h => by cases h), HQ13.out⟩
          · have hbad : readB v.N = false := by simpa using hbad
            have hN2 : v.N < 0 ∨ (¬ v.N < 0 ∧ (1048576 : Int) < v.N) := by
              unfold readB at hbad
              simp only [Bool.and_eq_false_iff, decide_eq_false_iff_not] at hbad
              omega
            have q7 : (loadRow 26 (.pointer (some ⟨g, 0, none⟩))).run Star.prog (w10.alloc (.cells (opC v) 38)) = .ok (.agg (rpC (Rn : Nat) (Sn : Nat) f (p : Nat) rd)) (w10.alloc (.cells (opC v) 38)) := HQA.out.rp.load Star.underlying26 rfl (by kernel_rfl)
            rcases hN2 with hn1 | ⟨hn1, hn2⟩
            all_goals
              go_wp2_with (first
                | (go_at_call 11; refine (read_bad _ v.N hbad _).mono ?_; rintro e w11 ⟨rfl, rfl⟩)
                | (go_at_call 8; (with_reducible refine (CT.out _ _ _ _ _ HQA.out.sp).mono ?_); rintro e w13 ⟨rfl, hb13⟩; have HQ13 := Lib.hid (HQA.out.below hb13); clear hb13 q7))
              exact ⟨i + 1, B, f, p, rd, ⟨rfl, rfl, rfl, rfl, rfl, rfl, by rw [Int.natCast_add]; rfl⟩, rfl, by omega, by omega, by omega, hf, hp1, hp2, HQ13.out⟩
        · -- a sum
          refine KEnv.wk_end (lawEnv_tight W) .normal (M := I5 W g (some ⟨b, o, none⟩) c l Rn Sn (l.length - (i + 1))) (fun a w T h => h.taped T) (fun a w h => ⟨_, by omega, h⟩) fun T4 => ?_
          show Code.wp Star.prog _ _ _ _
          have HQ10 := Lib.hid (HQ9.out.taped T4)
          clear HQ9
          generalize w9.taped T4 = w10 at *
          have l1 := run_loadO HQ10.out.oz HI.out rfl
          have l2 := run_storeO (Hold.new w10 (#[.int .u8 0, .slice none 0 0, .int .i64 0] : Array Value) 38 3 rfl).ok hcs hco
          have e0 : (opC v)[0]'(by rw [hcs]; omega) = .int .u8 (v.kind : Nat) := rfl
          have e1 : (opC v)[1]'(by rw [hcs]; omega) = .slice v.A v.bs.length v.c := rfl
          have e2 : (opC v)[2]'(by rw [hcs]; omega) = .int .i64 v.N := rfl
          have HQA := Lib.hid (HQ10.out.below ((Below.refl w10.heap.size w10).alloc (Nat.le_refl _) (.cells (opC v) 38)))
          have HOA := Lib.hid (Hold.new w10 (opC v) 38 3 hcs)
          have hwid := HQ10.out.sp.lt
          by_cases hbad : readB v.N = true
          · have hN2 : 0 ≤ v.N ∧ v.N ≤ 1048576 := by unfold readB at hbad; simpa using hbad
            obtain ⟨N, hN⟩ := Int.eq_ofNat_of_zero_le hN2.1
            rw [hN] at hN2 e2
            have hn1 : ¬ ((N : Int) < 0) := by omega
            have hn2 : ¬ ((1048576 : Int) < (N : Int)) := by omega
            have hNl : N ≤ 1048576 := by omega
            have hN5 : N ≤ 500 := by
              have h := HBG.out v (List.mem_of_getElem? HI.out)
              unfold bigN at h
              rw [hN] at h
              simp only [Bool.and_eq_false_iff, decide_eq_false_iff_not] at h
              omega
            clear hN2 hbad
            cases rd with
            | true =>
              have q7 : (loadRow 26 (.pointer (some ⟨g, 0, none⟩))).run Star.prog (w10.alloc (.cells (opC v) 38)) = .ok (.agg (rpC (Rn : Nat) (Sn : Nat) f (p : Nat) true)) (w10.alloc (.cells (opC v) 38)) := HQA.out.rp.load Star.underlying26 rfl (by kernel_rfl)
              have q4 := (rpF HQA.out.rp).read
              go_wp2_with (first
                | (go_at_call 14; refine (sum_late B Rn Sn f p N hNl _ HQA.out.sp).mono ?_; rintro e w11 ⟨rfl, rfl⟩)
                | (go_at_call 8; (with_reducible refine (CT.out _ _ _ _ _ HQA.out.sp).mono ?_); rintro e w13 ⟨rfl, hb13⟩; have HQ13 := Lib.hid (HQA.out.below hb13); clear hb13 q7))
              exact ⟨i + 1, B, f, p, true, ⟨rfl, rfl, rfl, rfl, rfl, rfl, by rw [Int.natCast_add]; rfl⟩, rfl, by omega, by omega, by omega, hf, hp1, hp2, HQ13.out⟩
            | false =>
              have hp3 : Hid (p < Rn) := Lib.hid (hp2 rfl)
              rcases Nat.eq_zero_or_pos N with hN0 | hN0
              · subst hN0
                go_wp2_with (first
                  | (go_at_call 14; go_loud (refine (sum_any B Rn Sn f hf p hR0 hR2 (by omega) hp1 0 (by omega) _ HQA.out.sp HQA.out.ot hofB.out).mono ?_; rintro e w11 ⟨v11, rfl, hr11, hb11⟩; obtain ⟨A11, c11, rfl, hw11⟩ := hr11.words; rw [sqB_length]; have HQ11 := Lib.hid (HQA.out.below hb11); have c2 : w11.cell? ⟨w10.heap.size, 2, none⟩ = some (.int .i64 0) := (HOA.out.call hb11).cell (i := 2) (congrArg (fun z => some (Value.int .i64 z)) hN); have q4 := (rpF HQ11.out.rp).read; have q7 : (loadRow 26 (.pointer (some ⟨g, 0, none⟩))).run Star.prog (w11) = .ok (.agg (rpC (Rn : Nat) (Sn : Nat) f (p : Nat) false)) (w11) := HQ11.out.rp.load Star.underlying26 rfl (by kernel_rfl); clear hr11 hb11 hw11 l1 l2))
                  | (go_at_call 8; (with_reducible refine (CT.out _ _ _ _ _ HQ11.out.sp).mono ?_); rintro e w13 ⟨rfl, hb13⟩; have HQ13 := Lib.hid (HQ11.out.below hb13); clear hb13 q7))
                exact ⟨i + 1, B, f, p, false, ⟨rfl, rfl, rfl, rfl, rfl, rfl, by rw [Int.natCast_add]; rfl⟩, rfl, by omega, by omega, by omega, hf, hp1, fun _ => hp3.out, HQ13.out⟩
              · have hN00 : ((N : Int) == 0) = false := by rw [beq_eq_false_iff_ne]; omega
                have HSM : Hid (∀ V A c B d, Words .u8 V A (sqB Rn N (rdF Rn Sn f p false N) (rdP p false N)) → Words .u8 V B (sqB Rn N (rdF Rn Sn f p false N) (rdP p false N)) → Calls Star.prog 13 #[.slice A N c, .slice B N d] V fun e w' => e = .returned (.bool true) ∧ Below V.heap.size V w') := fun V A c B d h1 h2 => same_told (sqB_length _ _ _ _) (sqB_lt _ _ _ _) (by omega) V A c B d h1 h2
                go_wp2_with (first
                  | (go_at_call 14; refine (sum_any B Rn Sn f hf p hR0 hR2 (by omega) hp1 N hNl _ HQA.out.sp HQA.out.ot hofB.out).mono ?_; rintro e w11 ⟨v11, rfl, hr11, hb11⟩; obtain ⟨A11, c11, rfl, hw11⟩ := hr11.words; rw [sqB_length]; have HW11 := Lib.hid hw11; have HQ11 := Lib.hid (HQA.out.below hb11); have c2 : w11.cell? ⟨w10.heap.size, 2, none⟩ = some (.int .i64 (N : Nat)) := (HOA.out.call hb11).cell (i := 2) (congrArg (fun z => some (Value.int .i64 z)) hN); have q4 := (rpF HQ11.out.rp).read; have q7 : (loadRow 26 (.pointer (some ⟨g, 0, none⟩))).run Star.prog (w11) = .ok (.agg (rpC (Rn : Nat) (Sn : Nat) f (p : Nat) false)) (w11) := HQ11.out.rp.load Star.underlying26 rfl (by kernel_rfl); clear hr11 hb11 hw11 l1 l2)
                  | (go_at_call 12; refine (refRead15_any Rn Sn f hf p hR0 hR2 (by omega) hp1 false N hN0 hNl w11).mono ?_; rintro e w12 ⟨A12, c12, rfl, hw12, hb12, -⟩; have HW12 := Lib.hid hw12; have HW11b := Lib.hid (HW11.out.below hb12 (Nat.le_refl _)); have HQ12 := Lib.hid (HQ11.out.below hb12); clear hw12 hb12 q7 q4 c2)
                  | (go_at_call 13; (with_reducible refine (HSM.out _ _ _ _ _ HW11b.out HW12.out).mono ?_); rintro e w14 ⟨rfl, hb14⟩; have HQ14 := Lib.hid (HQ12.out.below hb14); have q7 : (loadRow 26 (.pointer (some ⟨g, 0, none⟩))).run Star.prog (w14) = .ok (.agg (rpC (Rn : Nat) (Sn : Nat) f (p : Nat) false)) (w14) := HQ14.out.rp.load Star.underlying26 rfl (by kernel_rfl); clear hb14)
                  | (go_at_call 8; (with_reducible refine (CT.out _ _ _ _ _ HQ14.out.sp).mono ?_); rintro e w13 ⟨rfl, hb13⟩; have HQ13 := Lib.hid (HQ14.out.below hb13); clear hb13 q7))
                exact ⟨i + 1, B, f, p, false, ⟨rfl, rfl, rfl, rfl, rfl, rfl, by rw [Int.natCast_add]; rfl⟩, rfl, by omega, by omega, by omega, hf, hp1, fun _ => hp3.out, HQ13.out⟩
          · have hbad : readB v.N = false := by simpa using hbad
            have hN2 : v.N < 0 ∨ (¬ v.N < 0 ∧ (1048576 : Int) < v.N) := by
              unfold readB at hbad
              simp only [Bool.and_eq_false_iff, decide_eq_false_iff_not] at hbad
              omega
            have q7 : (loadRow 26 (.pointer (some ⟨g, 0, none⟩))).run Star.prog (w10.alloc (.cells (opC v) 38)) = .ok (.agg (rpC (Rn : Nat) (Sn : Nat) f (p : Nat) rd)) (w10.alloc (.cells (opC v) 38)) := HQA.out.rp.load Star.underlying26 rfl (by kernel_rfl)
            rcases hN2 with hn1 | ⟨hn1, hn2⟩
            all_goals
              go_wp2_with (first
                | (go_at_call 14; refine (sum_bad _ v.N hbad _).mono ?_; rintro e w11 ⟨rfl, rfl⟩)
                | (go_at_call 8; (with_reducible refine (CT.out _ _ _ _ _ HQA.out.sp).mono ?_); rintro e w13 ⟨rfl, hb13⟩; have HQ13 := Lib.hid (HQA.out.below hb13); clear hb13 q7))
              exact ⟨i + 1, B, f, p, rd, ⟨rfl, rfl, rfl, rfl, rfl, rfl, by rw [Int.natCast_add]; rfl⟩, rfl, by omega, by omega, by omega, hf, hp1, hp2, HQ13.out⟩
        · -- a clone
          refine KEnv.wk_end (lawEnv_tight W) .normal (M := I5 W g (some ⟨b, o, none⟩) c l Rn Sn (l.length - (i + 1))) (fun a w T h => h.taped T) (fun a w h => ⟨_, by omega, h⟩) fun T4 => ?_
          show Code.wp Star.prog _ _ _ _
          have HQ10 := Lib.hid (HQ9.out.taped T4)
          clear HQ9
          generalize w9.taped T4 = w10 at *
          have l1 := run_loadO HQ10.out.oz HI.out rfl
          have l2 := run_storeO (Hold.new w10 (#[.int .u8 0, .slice none 0 0, .int .i64 0] : Array Value) 38 3 rfl).ok hcs hco
          have e0 : (opC v)[0]'(by rw [hcs]; omega) = .int .u8 (v.kind : Nat) := rfl
          have e1 : (opC v)[1]'(by rw [hcs]; omega) = .slice v.A v.bs.length v.c := rfl
          have e2 : (opC v)[2]'(by rw [hcs]; omega) = .int .i64 v.N := rfl
          have HQA := Lib.hid (HQ10.out.below ((Below.refl w10.heap.size w10).alloc (Nat.le_refl _) (.cells (opC v) 38)))
          have q6 : (loadRow 26 (.pointer (some ⟨g, 0, none⟩))).run Star.prog w10 = .ok (.agg (rpC (Rn : Nat) (Sn : Nat) f (p : Nat) rd)) w10 := HQ10.out.rp.load Star.underlying26 rfl (by kernel_rfl)
          have hwid := HQA.out.sp.lt
          go_wp2_with (first
            | (go_at_call 15; refine (clone15_any B Rn Sn f p rd _ HQA.out.sp).mono ?_; rintro e w11 ⟨B2, rfl, hwB2, hs11, hb11⟩; have HQ11 := Lib.hid (HQA.out.below hb11); have HS11 := Lib.hid hs11; have hB2 : B < B2 := Nat.lt_of_lt_of_le hwid hwB2; have hBl : B2 < w11.heap.size := hs11.lt; clear hb11 hs11 hwB2 l1 l2 q6)
            | (go_at_call 11; refine (read_any B Rn Sn f hf p hR0 hR2 (by omega) hp1 rd 3 (by omega) w11 HQ11.out.sp HQ11.out.ot hofB.out).mono ?_; intro e w12 hrc; obtain ⟨v12, f2, p2, rd2, rfl, ht12, -⟩ := read_state hrc hf hR0 hp1 hp2; obtain ⟨-, hr12, ho12, hz12⟩ := HQ11.out.turns ht12 hgne.out hofB.out hAB.out hBB.out; have HQ12 : Hid (Q5 w12 g B2 Rn Sn f p rd (some ⟨b, o, none⟩) l) := Lib.hid ⟨HS11.out.turns ht12 (by omega), hr12, ho12, hz12⟩; have q7 : (loadRow 26 (.pointer (some ⟨g, 0, none⟩))).run Star.prog w12 = .ok (.agg (rpC (Rn : Nat) (Sn : Nat) f (p : Nat) rd)) w12 := HQ12.out.rp.load Star.underlying26 rfl (by kernel_rfl); clear hrc ht12 hr12 ho12 hz12)
            | (go_at_call 8; (with_reducible refine (CT.out _ _ _ _ _ HQ12.out.sp).mono ?_); rintro e w13 ⟨rfl, hb13⟩; have HQ13 := Lib.hid (HQ12.out.below hb13); clear hb13 q7))
          all_goals
            exact ⟨i + 1, B2, f, p, rd, ⟨rfl, rfl, rfl, rfl, rfl, rfl, by rw [Int.natCast_add]; rfl⟩, rfl, by omega, by omega, by omega, hf, hp1, hp2, HQ13.out⟩
      · obtain rfl : i = l.length := by omega
        have hil2 : decide ((l.length : Int) < (l.length : Int)) = false := decide_eq_false (by omega)
        refine KEnv.wk_exitk (lawEnv_tight W) (id := 0) (fun a w h => h) fun T2 => ?_
        show Code.wp Star.prog _ _ _ _
        generalize w9.taped T2 = w10 at *
        go_wp2_with fail
        show KEnv.Wk (lawEnv W) _ _ _ _
        refine KEnv.wk_wp (lawEnv_tight W) (fun _ _ _ _ h => h) fun T => ?_
        show Code.wp Star.prog _ _ _ _
        go_wp2_with fail
        exact ⟨.inr rfl, rfl, rfl⟩
end Go.Proofs.YtpmfngbdfmodmaaDoor.Co
end
