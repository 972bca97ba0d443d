/- Layer 18's statements: the whole table is told in order. -/
import Derived.Test.YtpdbbeafleeajaaDoorLawalg
namespace Go.Proofs.YtpdbbeafleeajaaDoor.Al
open Go.RowKit Go.Shelf Rw
set_option linter.unusedVariables false
set_option linter.unusedSimpArgs false
attribute [local go_sem] Oper.semAt_some
theorem ko_below {W W' : World} (h : Below W.heap.size W W') : KeepsOthers W W' := ⟨h.size, fun k o hk _ => (h.block k (Array.getElem?_eq_some_iff.1 hk).1).trans hk⟩
theorem told18_snoc {k x : Nat} {pre : List Nat} (h : told18 k = pre ++ [x]) : k = pre.length + 1 ∧ x = pre.length + 1 := by
  have hl := congrArg List.length h
  rw [told18_length, List.length_append] at hl
  obtain rfl : k = pre.length + 1 := hl
  rw [told18_succ] at h
  have := (List.append_inj' h rfl).2
  rw [List.singleton_inj] at this
  exact ⟨rfl, this.symm⟩
theorem results_cell1 {P : Program} {fn : Func} {p : Tmp} {t : TypeId} (h : fn.results = #[.cell p t]) (tmps : Array Value) (w : World) (a : Addr) (x : Value)
    (hp : tmps.getD p undef = .pointer (some a)) (l1 : (loadVar t a).run P w = .ok x w) : (results fn tmps).run P w = .ok x w := by
  have hp' : tmps[p]?.getD undef = .pointer (some a) := by simpa using hp
  simp [results, h, hp', asAddr, l1]
/-- The boxes of the law: where to stop, the answer, how many were told. -/
structure F19 (w W : World) (B : Nat) (s : Nat) (r : Value) (n : Value) : Prop where
  b0 : Boxed W w.heap.size 5 (.int .u8 (s : Nat))
  b1 : Boxed W (w.heap.size + 1) 4 r
  b2 : Boxed W B 3 n
  far : w.heap.size + 2 ≤ B
  below : Below w.heap.size w W
theorem F19.kept {w W W' : World} {B s : Nat} {r n : Value} (h : F19 w W B s r n) {row : Option Nat} (hg : W.grownBy W' row) (hr : ∀ k, row = some k → B < k) : F19 w W' B s r n := by
  have hf := h.far
  have hn : ∀ k, k ≤ B → some k ≠ row := fun k hk e => by have := hr k e.symm; omega
  refine ⟨h.b0.kept hg (hn _ (by omega)), h.b1.kept hg (hn _ (by omega)), h.b2.kept hg (hn _ (by omega)), hf, ?_⟩
  have hl := h.b0.lt
  exact h.below.trans ⟨hg.os, hg.tape, hg.output, hg.size, fun k hk => hg.block k (by omega) (hn _ (by omega))⟩
theorem F19.call {w W W' : World} {B s : Nat} {r n : Value} (h : F19 w W B s r n) (hb : Below W.heap.size W W') : F19 w W' B s r n := h.kept (grownBy_below hb) (fun _ e => by cases e)
theorem F19.setN {w W : World} {B s : Nat} {r n : Value} (h : F19 w W B s r n) (n' : Value) : F19 w (W.setCell ⟨B, 0, none⟩ n') B s r n' := by
  have hf := h.far
  exact ⟨h.b0.other (by omega) _, h.b1.other (by omega) _, h.b2.set n', hf, h.below.setCell (p := ⟨B, 0, none⟩) (by show _ ≤ B; omega) _⟩
theorem F19.setR {w W : World} {B s : Nat} {r n : Value} (h : F19 w W B s r n) (r' : Value) : F19 w (W.setCell ⟨w.heap.size + 1, 0, none⟩ r') B s r' n := by
  have hf := h.far
  exact ⟨h.b0.other (by omega) _, h.b1.set r', h.b2.other (by omega) _, hf, h.below.setCell (p := ⟨w.heap.size + 1, 0, none⟩) (by show _ ≤ w.heap.size + 1; omega) _⟩
theorem run_seq_some (f : Fn) (w : World) : (binOp .neq 30 (.func f #[] #[]) .nilFunc).run Tryd.prog w = .ok (.bool true) w := by cases f <;> kernel_rfl
attribute [local go_sem] run_seq_some
set_option maxRecDepth 100000 in
set_option maxHeartbeats 4000000 in
theorem algAll_walk (w : World) (hT : ATab w) (s : Nat) (hs : s < 256) :
    Calls Tryd.prog 5 #[.int .u8 (s : Nat)] w fun e w' => e = .returned (.bool true) ∧ Below w.heap.size w w' := by
  have hlt := hT.lt
  have CW := Lib.hid (fun W h => wakes18_any W h)
  have C4 := Lib.hid (fun (k : Nat) (hk : k < 15) W => by have h := refWord_any (k : Nat) W; rw [idx_nat hk] at h; exact h)
  have b0 := (Boxed.new w 5 (.int .u8 (s : Nat))).alloc (.cells #[.bool false] 4)
  have b1 := Boxed.new (w.alloc (.cells #[.int .u8 (s : Nat)] 5)) 4 (.bool false)
  rw [World.size_alloc] at b1
  have hB0 := ((Below.refl w.heap.size w).alloc (Nat.le_refl _) (.cells #[.int .u8 (s : Nat)] 5)).alloc (by simp) (.cells #[.bool false] 4)
  have hs2 : ((w.alloc (.cells #[.int .u8 (s : Nat)] 5)).alloc (.cells #[.bool false] 4)).heap.size = w.heap.size + 2 := by simp
  refine (callsIn_wide (n := 4)).1 ?_
  refine callsIn_of_wp_marks Tryd.func5 rfl trivial ?_ rfl
  simp only [Tryd.ntmps5, List.size_toArray, List.length_cons, List.length_nil, Nat.reduceAdd, Nat.reduceSub, Array.replicate_succ, Array.replicate_zero, List.push_toArray, List.append_toArray, List.nil_append, List.cons_append]
  have HT2 := Lib.hid (hT.below hB0 (Nat.le_refl _))
  have HB0 := Lib.hid hB0
  have H0 := Lib.hid b0
  have H1 := Lib.hid b1
  have HS2 := Lib.hid hs2
  clear hB0 hT b0 b1 hs2
  gi_wp2_with (first
    | (refine ⟨trivial, ?_⟩; gi_at_call 7; refine (callsIn_wide.2 (CW.out _ HT2.out)).mono ?_; rintro e w3 ⟨rfl, hb3⟩; have HB3 := Lib.hid (HB0.out.trans (hb3.mono HB0.out.size)); have HT3 := Lib.hid (HT2.out.below hb3 (Nat.le_refl _)); have K0 := Lib.hid (H0.out.kept (grownBy_below hb3) (by simp)); have K1 := Lib.hid (H1.out.kept (grownBy_below hb3) (by simp)); have hs3 : w.heap.size + 2 ≤ w3.heap.size := (Nat.le_trans (Nat.le_of_eq HS2.out.symm) hb3.size); clear hb3 HB0 H0 H1 HT2 HS2)
    | (refine ⟨trivial, ?_⟩; gi_at_call 18; refine (callsIn_wide.2 (all_any _)).mono ?_; rintro e w' ⟨rfl, rfl⟩))
  have hF0 : F19 w (w3.alloc (.cells #[.int .i64 0] 3)) w3.heap.size s (.bool false) (.int .i64 ((0 : Nat) : Int)) :=
    ⟨K0.out.alloc _, K1.out.alloc _, Boxed.new _ _ _, hs3, HB3.out.alloc (by omega) _⟩
  have hT0 := HT3.out.below ((Below.refl w3.heap.size w3).alloc (Nat.le_refl _) (.cells #[.int .i64 0] 3)) (Nat.le_refl _)
  have hsz : (w3.alloc (.cells #[.int .i64 0] 3)).heap.size = w3.heap.size + 1 := World.size_alloc _ _
  clear K0 K1 HB3 HT3 CW
  generalize w3.alloc (.cells #[.int .i64 0] 3) = w4 at *
  generalize w3.heap.size = B at *
  refine wpIn_rangeFunc_ownG rfl (by omega) (gf := 20) (lb := #[]) rfl trivial (enters_of Tryd.func20 (by kernel_rfl) rfl)
    (all1_stops 3 (by omega) w.heap.size hlt w4 hT0 (by omega)) (fun h k => h.trans k) (keep_b (by omega) (by simp)) (Below.refl _ _) (fun _ => rfl)
    (fun pre W => F19 w W B s (.bool false) (.int .i64 (pre.length : Nat)) ∧ pre.length ≤ s)
    (fun cc pre W => (cc = .exit 0 ∧ ∃ pre' x, pre = pre' ++ [x] ∧ F19 w W B s (.bool false) (.int .i64 (pre'.length : Nat)) ∧ pre'.length = s) ∨ (cc = .ret ∧ ∃ pre' x, pre = pre' ++ [x] ∧ x ≠ pre'.length + 1))
    (fun pre X Y row h hg hr => ⟨h.1.kept hg (fun r e => by have := (hr r e).1; omega), h.2⟩)
    (fun cc pre X Y row h hg hr => by
      rcases h with ⟨e, pre', x, e1, h2, h3⟩ | h
      · exact .inl ⟨e, pre', x, e1, h2.kept hg (fun r e => by have := (hr r e).1; omega), h3⟩
      · exact .inr h)
    ⟨hF0, Nat.zero_le _⟩
    (fun x => { tmps := #[.int .u8 (s : Nat), .pointer (some ⟨w.heap.size, 0, none⟩), .pointer (some ⟨w.heap.size + 1, 0, none⟩), .pointer (some ⟨B, 0, none⟩), .func (.func 20) #[] #[], .int .i64 (x : Nat), txt (wdS x),
      .bool true, .bool false, .func (.func 20) #[] #[], .func (.func 20) #[] #[], .bool true, .func (.func 20) #[] #[], .int .i64 (x : Nat), txt (wdS x),
      undef, undef, undef, undef, undef, undef, undef, undef, undef, undef, undef, undef, undef, undef, undef, undef, undef, undef, undef, undef, undef, undef, undef, undef], defers := [] }) ?assign ?body ?done ?stop
  case assign =>
    intro l x W K hK
    gi_wp2
    exact hK
  case body =>
    rintro l pre x W ⟨hF, hle⟩ h14
    have c0 := hF.b0.cell
    have c2 := hF.b2.cell
    have f2 := hF.b2.frozen
    have HF := Lib.hid hF
    have hBl := Lib.hid hF.far
    generalize hpl : pre.length = m at *
    have HPL := Lib.hid hpl
    clear hF hF0 hT0 hpl
    by_cases hst : m < s
    · have hst2 : ¬ ((s : Int) ≤ (m : Int)) := by omega
      have hwi : IntKind.i64.wrap ((m : Int) + 1) = (m : Int) + 1 := by rw [IntKind.wrap_i64]; omega
      have hFN := HF.out.setN (.int .i64 ((m : Int) + 1))
      have c2' := hFN.b2.cell
      have c1' := hFN.b1.cell
      have f1' := hFN.b1.frozen
      have HFN := Lib.hid hFN
      clear hFN
      by_cases hx : x = m + 1
      · have HC := C4.out (m + 1) (by omega)
        rw [show (((m + 1 : Nat) : Nat) : Int) = (m : Int) + 1 from rfl] at HC
        replace HC := Lib.hid HC
        have ex : (x : Int) = (m : Int) + 1 := by omega
        rw [show wdS x = wdS (m + 1) by rw [hx], ex]
        have hne : (⟨(wdS (m + 1)).toArray⟩ : ByteArray).toList.isEmpty = false := by
          rw [ByteArray.toList_eq]
          have : ∀ i, i < 14 → (wdS (i + 1)).isEmpty = false := by decide
          exact this m h14
        have HX := Lib.hid hx
        have HLE : Hid (m + 1 ≤ s) := Lib.hid hst
        clear hx ex hst h14 hle
        unfold txt at HC ⊢
        generalize (⟨(wdS (m + 1)).toArray⟩ : ByteArray) = y at *
        gi_wp2
        refine ⟨trivial, ?_⟩
        refine (CallsIn.inRound l (callsIn_wide.2 (HC.out _))).mono ?_
        rintro e W2 ⟨rfl, hb2⟩
        have HFN2 := Lib.hid (HFN.out.call hb2)
        have HKO := Lib.hid (ko_below hb2)
        have HKP := Lib.hid hb2
        clear hb2
        gi_wp2
        have hb := hBl.out
        refine ⟨((KeepsOthers.setCell _ _ _).trans HKO.out).from _, (Keep.setCell _ [] W B 0 _ (by omega) (by simp)).trans (Keep.of_below HKP.out (by rw [World.size_setCell]; exact HF.out.below.size) (by simp)), ?_, ?_⟩
        · rw [List.length_append, HPL.out]
          exact HFN2.out
        · rw [List.length_append, HPL.out]
          exact HLE.out
      · have hx2 : ((x : Int) != (m : Int) + 1) = true := by rw [bne_iff_ne]; omega
        have HX := Lib.hid hx
        clear hx
        gi_wp2
        refine ⟨trivial, ?_⟩
        gi_wp2
        exact ⟨((KeepsOthers.setCell _ _ _).trans (KeepsOthers.setCell _ _ _)).from _, .inr ⟨rfl, pre, x, rfl, by rw [HPL.out]; exact HX.out⟩⟩
    · have hst2 : (s : Int) ≤ (m : Int) := by omega
      have HM : Hid (m = s) := Lib.hid (by omega)
      clear hle hst h14
      gi_wp2
      exact ⟨KeepsFrom.refl _ _, .inl ⟨rfl, pre, x, rfl, by rw [HPL.out]; exact HF.out, by rw [HPL.out]; exact HM.out⟩⟩
  case done =>
    rintro D ys W hD rfl ⟨hF, hle⟩ hK
    rw [told18_length] at hF hle
    have c0 := hF.b0.cell
    have c1 := hF.b1.cell
    have c2 := hF.b2.cell
    have f1 := hF.b1.frozen
    have HF := Lib.hid hF
    have HBL := hF.far
    clear hF hF0 hT0
    rcases Nat.eq_or_lt_of_le hle with rfl | hle2
    · gi_wp2
      have HS := Lib.hid (HF.out.setR (.bool true))
      refine ⟨by simp, .inl ⟨_, _, rfl, run_takeDeferred (by rw [show (W.setCell ⟨w.heap.size + 1, 0, none⟩ (.bool true)).heap[D]? = W.heap[D]? from Below.heap_setCell _ ⟨w.heap.size + 1, 0, none⟩ _ D (fun e => by have e2 : D = w.heap.size + 1 := (by first | exact e | exact e.symm); omega)]; exact hK), ?_⟩⟩
      clear c0 c1 c2 f1
      have hG := HS.out.kept (row := some D) (grownBy_putObj' _ D (.deferred none)) (fun r e => by cases e; omega)
      generalize (W.setCell ⟨w.heap.size + 1, 0, none⟩ (.bool true)).putObj D (.deferred none) = W9 at *
      have c1 := hG.b1.cell
      have HG := Lib.hid hG
      have l1 : (loadVar 4 ⟨w.heap.size + 1, 0, none⟩).run Tryd.prog W9 = .ok (.bool true) W9 := by clear HF hG HG HS hK; go_simp
      exact ⟨_, results_cell1 (p := 2) rfl _ _ _ _ rfl l1, rfl, HG.out.below⟩
    · have hm1 : (14 : Int) < (s : Int) := by omega
      clear hle
      gi_wp2
      have HS := Lib.hid (HF.out.setR (.bool true))
      refine ⟨by simp, .inl ⟨_, _, rfl, run_takeDeferred (by rw [show (W.setCell ⟨w.heap.size + 1, 0, none⟩ (.bool true)).heap[D]? = W.heap[D]? from Below.heap_setCell _ ⟨w.heap.size + 1, 0, none⟩ _ D (fun e => by have e2 : D = w.heap.size + 1 := (by first | exact e | exact e.symm); omega)]; exact hK), ?_⟩⟩
      clear c0 c1 c2 f1
      have hG := HS.out.kept (row := some D) (grownBy_putObj' _ D (.deferred none)) (fun r e => by cases e; omega)
      generalize (W.setCell ⟨w.heap.size + 1, 0, none⟩ (.bool true)).putObj D (.deferred none) = W9 at *
      have c1 := hG.b1.cell
      have HG := Lib.hid hG
      have l1 : (loadVar 4 ⟨w.heap.size + 1, 0, none⟩).run Tryd.prog W9 = .ok (.bool true) W9 := by clear HF hG HG HS hK; go_simp
      exact ⟨_, results_cell1 (p := 2) rfl _ _ _ _ rfl l1, rfl, HG.out.below⟩
  case stop =>
    rintro D cc pre W hD ⟨k, hk, rfl⟩ h hK
    rcases h with ⟨rfl, pre', x, e1, hF, hn⟩ | ⟨rfl, pre', x, e1, hx⟩
    · obtain ⟨rfl, rfl⟩ := told18_snoc e1
      rw [hn] at hF
      have c0 := hF.b0.cell
      have c1 := hF.b1.cell
      have c2 := hF.b2.cell
      have f1 := hF.b1.frozen
      have hm1 : (s : Int) < 14 := by omega
      have hm2 : min (s : Int) 14 = (s : Int) := by omega
      have HF := Lib.hid hF
      have HBL := hF.far
      clear hF hF0 hT0 hk hn e1
      gi_wp2
      have HS := Lib.hid (HF.out.setR (.bool true))
      refine ⟨by simp, .inl ⟨_, _, rfl, run_takeDeferred (by rw [show (W.setCell ⟨w.heap.size + 1, 0, none⟩ (.bool true)).heap[D]? = W.heap[D]? from Below.heap_setCell _ ⟨w.heap.size + 1, 0, none⟩ _ D (fun e => by have e2 : D = w.heap.size + 1 := (by first | exact e | exact e.symm); omega)]; exact hK), ?_⟩⟩
      clear c0 c1 c2 f1
      have hG := HS.out.kept (row := some D) (grownBy_putObj' _ D (.deferred none)) (fun r e => by cases e; omega)
      generalize (W.setCell ⟨w.heap.size + 1, 0, none⟩ (.bool true)).putObj D (.deferred none) = W9 at *
      have c1 := hG.b1.cell
      have HG := Lib.hid hG
      have l1 : (loadVar 4 ⟨w.heap.size + 1, 0, none⟩).run Tryd.prog W9 = .ok (.bool true) W9 := by clear HF hG HG HS hK; go_simp
      exact ⟨_, results_cell1 (p := 2) rfl _ _ _ _ rfl l1, rfl, HG.out.below⟩
    · exact absurd (told18_snoc e1).2 hx
end Go.Proofs.YtpdbbeafleeajaaDoor.Al
