/- Layer 18: the iterator over the table, and what finds a word. -/
import Derived.Test.YtpdbbeafleeajaaDoorAlgt
import Derived.Test.YtpdbbeafleeajaaDoorIter
namespace Go.Proofs.YtpdbbeafleeajaaDoor.Al
open Go.RowKit Go.Shelf Rw
set_option linter.unusedVariables false
set_option linter.unusedSimpArgs false
attribute [local go_sem] Oper.semAt_some
theorem grownBy_below {W W' : World} (h : Below W.heap.size W W') : W.grownBy W' none := ⟨h.os, h.tape, h.output, h.size, fun k hk _ => h.block k hk⟩
theorem ATab.far {w w' : World} (h : ATab w) {B : Nat} (hb : Below B w w') (hB : 0 < B) : ATab w' := ⟨fun j v hj => (hb.cell (p := ⟨0, j, none⟩) hB).trans (h.rows j v hj)⟩
/-- The numbers that were told after k rounds. -/
def told18 (k : Nat) : List Nat := (List.range k).map (· + 1)
theorem told18_succ (k : Nat) : told18 (k + 1) = told18 k ++ [k + 1] := by unfold told18; rw [List.range_succ, List.map_append]; rfl
theorem told18_length (k : Nat) : (told18 k).length = k := by unfold told18; simp
theorem told18_mem (k x : Nat) : x ∈ told18 k ↔ 1 ≤ x ∧ x ≤ k := by
  unfold told18
  simp only [List.mem_map, List.mem_range]
  constructor
  · rintro ⟨a, h, rfl⟩; omega
  · rintro ⟨h1, h2⟩; exact ⟨x - 1, by omega, by omega⟩
set_option maxRecDepth 100000 in
set_option maxHeartbeats 2000000 in
theorem all1_in (n : Nat) (hn : 1 ≤ n) (l n₀ : Nat) (hn0 : 0 < n₀) (J Jx : List Nat → World → Prop) (W : World) (hJ : AbidesFrom W.heap.size J) (hT : ATab W)
    (hnW : n₀ ≤ W.heap.size)
    (hY : ∀ pre x W, J pre W → pre.length < 14 → YieldAt Fence.wide (n - 1) Tryd.prog l #[.int .i64 (x : Nat), txt (wdS x)] W fun e W' =>
      (e = .returned (.bool true) ∧ J (pre ++ [x]) W' ∧ Keep n₀ [] W W') ∨ (e = .returned (.bool false) ∧ Jx (pre ++ [x]) W')) (h0 : J [] W) :
    CallsIn Fence.wide n Tryd.prog 20 #[.func (.yield l) #[] #[]] W fun e W' => (∃ v, e = .returned v) ∧
      ((∃ ys, ys = told18 14 ∧ J ys W') ∨ (∃ pre, (∃ k, k ≤ 14 ∧ pre = told18 k) ∧ Jx pre W')) := by
  have HW := Lib.hid (fun (k : Nat) W h => word_any (k : Nat) W h)
  refine callsIn_of_wp Tryd.func20 rfl trivial ?_ rfl
  simp only [Tryd.ntmps20, List.size_toArray, List.length_cons, List.length_nil, Nat.reduceAdd, Nat.reduceSub, Array.replicate_succ, Array.replicate_zero, List.push_toArray, List.append_toArray, List.nil_append, List.cons_append]
  gi_wp2
  gi_loopw [2] (fun i wr => ∃ k : Nat, k ≤ 14 ∧ i = .int .i64 ((k + 1 : Nat) : Int) ∧ J (told18 k) wr ∧ Keep n₀ [] W wr)
    (fun i _ => 15 - (intOf i).toNat)
  case atStart => exact ⟨0, Nat.zero_le _, rfl, h0, Keep.refl _ _ _⟩
  case round =>
    obtain ⟨k, hk, rfl, hJs, hnx⟩ := hrel
    by_cases hlt : k < 14
    · have hT2 := hT.far hnx.below hn0
      have hlt2 : ((k + 1 : Nat) : Int) < 15 := by omega
      have hJ2 := Lib.hid (fun (W3 : World) (hb : Below wr.heap.size wr W3) => hJ _ _ _ none hJs (grownBy_below hb) (fun _ e => by cases e))
      have hY2 : Hid (∀ W3, J (told18 k) W3 → YieldAt Fence.wide (n - 1) Tryd.prog l #[.int .i64 ((k : Int) + 1), txt (wdS (k + 1))] W3 fun e W' =>
          (e = .returned (.bool true) ∧ J (told18 k ++ [k + 1]) W' ∧ Keep n₀ [] W3 W') ∨ (e = .returned (.bool false) ∧ Jx (told18 k ++ [k + 1]) W')) := Lib.hid (fun (W3 : World) (h : J (told18 k) W3) => hY _ (k + 1) W3 h (by rw [told18_length]; exact hlt))
      have HL := Lib.hid hlt
      have HK := Lib.hid (told18_succ k)
      have hwi : IntKind.i64.wrap (((k + 1 : Nat) : Int) + 1) = ((k + 1 + 1 : Nat) : Int) := by rw [IntKind.wrap_i64]; omega
      clear hY hJ h0 hJs hT hlt
      gi_wp2_with (refine ⟨trivial, ?_⟩; gi_at_call 10; refine (callsIn_wide.2 (HW.out (k + 1) _ hT2)).mono ?_; rintro e W2 ⟨rfl, hb2⟩; rw [idx_nat (by have := HL.out; omega)]; have HJ2 := Lib.hid (hJ2.out _ hb2); have HK2 := Lib.hid (hnx.trans (Keep.of_below hb2 (Nat.le_trans hnW hnx.below.size) (by simp))); clear hb2)
      obtain ⟨fn, tmps, assign, body, hy, hR⟩ := hY2.out _ HJ2.out
      rw [hy]
      gi_wp2
      refine hR.mono ?_
      rintro e W3 (⟨rfl, hJ3, hk3⟩ | ⟨rfl, hJx3⟩)
      · gi_wp2
        go_roundw
        case rel => exact ⟨k + 1, by omega, by rfl, by rw [HK.out]; exact hJ3, HK2.out.trans hk3⟩
        case measure => simp [intOf]; omega
      · gi_wp2
        refine bodyPost_ret (results_none rfl _ _ _) rfl ?_
        exact ⟨⟨_, rfl⟩, .inr ⟨_, ⟨k + 1, by have := HL.out; omega, HK.out.symm⟩, hJx3⟩⟩
    · obtain rfl : k = 14 := by omega
      gi_wp2
      go_end0
      exact ⟨⟨_, rfl⟩, .inl ⟨_, rfl, hJs⟩⟩
theorem all1_stops (n : Nat) (hn : 1 ≤ n) (n₀ : Nat) (hn0 : 0 < n₀) (w : World) (hT : ATab w) (hnw : n₀ ≤ w.heap.size) :
    SeqStopsK Fence.wide n Tryd.prog 20 #[] (fun x : Nat => #[Value.int .i64 (x : Nat), txt (wdS x)]) (Keep n₀ [])
      (fun ys => ys = told18 14) (fun pre => ∃ k, k ≤ 14 ∧ pre = told18 k) 14 w := fun l J Jx W hW hJ _ hY h0 =>
  all1_in n hn l n₀ hn0 J Jx W hJ (hT.below hW (Nat.le_refl _)) (Nat.le_trans hnw hW.size) hY h0
theorem all_any (w : World) : Calls Tryd.prog 18 #[] w fun e w' => e = .returned (.func (.func 20) #[] #[]) ∧ w = w' := by
  go_enter Tryd.func18, Tryd.ntmps18
  go_wp2
  go_ret
  exact ⟨rfl, rfl⟩
/-- The words are different. -/
theorem wdS_inj {x y : Nat} (hx : 1 ≤ x ∧ x ≤ 14) (hy : 1 ≤ y ∧ y ≤ 14) (h : wdS x = wdS y) : x = y := by
  have : ∀ x, x < 15 → ∀ y, y < 15 → wdS x = wdS y → x = y := by decide +kernel
  exact this x (by omega) y (by omega) h
/-- The number of a word. -/
def findN (s : List UInt8) : Nat := ((told18 14).find? fun x => wdS x == s).getD 0
theorem results_cells {P : Program} {fn : Func} {p q : Tmp} {t u : TypeId} (h : fn.results = #[.cell p t, .cell q u]) (tmps : Array Value) (w : World) (a b : Addr) (x y : Value)
    (hp : tmps.getD p undef = .pointer (some a)) (hq : tmps.getD q undef = .pointer (some b)) (l1 : (loadVar t a).run P w = .ok x w) (l2 : (loadVar u b).run P w = .ok y w) :
    (results fn tmps).run P w = .ok (.tuple #[x, y]) w := by
  have hp' : tmps[p]?.getD undef = .pointer (some a) := by simpa using hp
  have hq' : tmps[q]?.getD undef = .pointer (some b) := by simpa using hq
  simp [results, h, hp', hq', asAddr, l1, l2]
/-- The boxes of a search: the word, what was found. -/
structure F18 (w W : World) (s : ByteArray) (v1 v2 : Value) : Prop where
  b0 : Boxed W w.heap.size 9 (.string s)
  b1 : Boxed W (w.heap.size + 1) 3 v1
  b2 : Boxed W (w.heap.size + 1 + 1) 4 v2
  below : Below w.heap.size w W
theorem F18.kept {w W W' : World} {s : ByteArray} {v1 v2 : Value} (h : F18 w W s v1 v2) {row : Option Nat} (hg : W.grownBy W' row) (hr : ∀ r, row = some r → w.heap.size + 3 ≤ r) : F18 w W' s v1 v2 := by
  have hn : ∀ k, k < w.heap.size + 3 → some k ≠ row := fun k hk e => by have := hr k e.symm; omega
  refine ⟨h.b0.kept hg (hn _ (by omega)), h.b1.kept hg (hn _ (by omega)), h.b2.kept hg (hn _ (by omega)), ?_⟩
  have hb := h.below
  have hl := h.b0.lt
  exact hb.trans ⟨hg.os, hg.tape, hg.output, hg.size, fun k hk => hg.block k (by omega) (hn _ (by omega))⟩
theorem F18.set {w W : World} {s : ByteArray} {v1 v2 : Value} (h : F18 w W s v1 v2) (u1 u2 : Value) : F18 w ((W.setCell ⟨w.heap.size + 1, 0, none⟩ u1).setCell ⟨w.heap.size + 1 + 1, 0, none⟩ u2) s u1 u2 :=
  ⟨(h.b0.other (by omega) _).other (by omega) _, ((h.b1.set u1).other (by omega) _), ((h.b2.other (by omega) _).set u2),
   (h.below.setCell (p := ⟨w.heap.size + 1, 0, none⟩) (by show _ ≤ w.heap.size + 1; omega) _).setCell (p := ⟨w.heap.size + 1 + 1, 0, none⟩) (by show _ ≤ w.heap.size + 1 + 1; omega) _⟩
theorem findN_none {s : List UInt8} (h : ∀ y ∈ told18 14, wdS y ≠ s) : findN s = 0 := by
  unfold findN
  rw [List.find?_eq_none.2 (fun x hx => by simpa using h x hx)]
  rfl
theorem findN_some {s : List UInt8} {x : Nat} (hx : 1 ≤ x ∧ x ≤ 14) (h : wdS x = s) : findN s = x := by
  subst h
  have : ∀ x, x < 15 → 1 ≤ x → findN (wdS x) = x := by decide +kernel
  exact this x (by omega) hx.1
set_option maxRecDepth 100000 in
set_option maxHeartbeats 4000000 in
theorem find_any (s : ByteArray) (w : World) (hT : ATab w) : Calls Tryd.prog 17 #[.string s] w fun e w' =>
    e = .returned (.tuple #[.int .i64 (findN s.data.toList : Nat), .bool (decide (0 < findN s.data.toList))]) ∧ Below w.heap.size w w' := by
  have hlt := hT.lt
  refine (callsIn_wide (n := 4)).1 ?_
  refine callsIn_of_wp_marks Tryd.func17 rfl trivial ?_ rfl
  simp only [Tryd.ntmps17, List.size_toArray, List.length_cons, List.length_nil, Nat.reduceAdd, Nat.reduceSub, Array.replicate_succ, Array.replicate_zero, List.push_toArray, List.append_toArray, List.nil_append, List.cons_append]
  gi_wp2_with (refine ⟨trivial, ?_⟩; gi_at_call 18; refine (callsIn_wide.2 (all_any _)).mono ?_; rintro e w' ⟨rfl, rfl⟩)
  have b0 := Boxed.new w 9 (.string s)
  have b1 := Boxed.new (w.alloc (.cells #[.string s] 9)) 3 (.int .i64 0)
  have b2 := Boxed.new ((w.alloc (.cells #[.string s] 9)).alloc (.cells #[.int .i64 0] 3)) 4 (.bool false)
  have b0' := (b0.alloc (.cells #[.int .i64 0] 3)).alloc (.cells #[.bool false] 4)
  have b1' := b1.alloc (.cells #[.bool false] 4)
  have hB0 := (((Below.refl w.heap.size w).alloc (Nat.le_refl _) (.cells #[.string s] 9)).alloc (by simp) (.cells #[.int .i64 0] 3)).alloc (by simp; omega) (.cells #[.bool false] 4)
  have hs3 : (((w.alloc (.cells #[.string s] 9)).alloc (.cells #[.int .i64 0] 3)).alloc (.cells #[.bool false] 4)).heap.size = w.heap.size + 3 := by simp
  have hF0 : F18 w (((w.alloc (.cells #[.string s] 9)).alloc (.cells #[.int .i64 0] 3)).alloc (.cells #[.bool false] 4)) s (.int .i64 0) (.bool false) := by
    rw [World.size_alloc] at b1'
    rw [World.size_alloc, World.size_alloc] at b2
    exact ⟨b0', b1', b2, hB0⟩
  clear b0 b1 b2 b0' b1' hB0
  have hT0 := hT.below hF0.below (Nat.le_refl _)
  generalize ((w.alloc (.cells #[.string s] 9)).alloc (.cells #[.int .i64 0] 3)).alloc (.cells #[.bool false] 4) = w3 at *
  refine wpIn_rangeFunc_ownG rfl (by omega) (gf := 20) (lb := #[]) rfl trivial (enters_of Tryd.func20 (by kernel_rfl) rfl)
    (all1_stops 3 (by omega) w.heap.size hlt w3 hT0 (by omega)) (fun h k => h.trans k) (keep_b (by omega) (by simp)) (Below.refl _ _) (fun _ => rfl)
    (fun pre W => F18 w W s (.int .i64 0) (.bool false) ∧ ∀ y ∈ pre, wdS y ≠ s.data.toList)
    (fun cc pre W => cc = .ret ∧ ∃ pre' x, pre = pre' ++ [x] ∧ wdS x = s.data.toList ∧ F18 w W s (.int .i64 (x : Nat)) (.bool true))
    (fun pre X Y row h hg hr => ⟨h.1.kept hg (fun r e => by have := (hr r e).1; omega), h.2⟩)
    (fun cc pre X Y row h hg hr => by
      obtain ⟨e, pre', x, e1, e2, h3⟩ := h
      exact ⟨e, pre', x, e1, e2, h3.kept hg (fun r e => by have := (hr r e).1; omega)⟩)
    ⟨hF0, fun y hy => absurd hy (by simp)⟩
    (fun x => { tmps := #[.string s, .pointer (some ⟨w.heap.size, 0, none⟩), .pointer (some ⟨w.heap.size + 1, 0, none⟩), .pointer (some ⟨w.heap.size + 1 + 1, 0, none⟩), .int .i64 (x : Nat), txt (wdS x), .func (.func 20) #[] #[], .int .i64 (x : Nat), txt (wdS x), undef, undef, undef, undef], defers := [] }) ?assign ?body ?done ?stop
  case assign =>
    intro l x W K hK
    gi_wp2
    exact hK
  case body =>
    rintro l pre x W ⟨hF, hN⟩ _
    have c0 := hF.b0.cell
    have c1 := hF.b1.cell
    have c2 := hF.b2.cell
    have f1 := hF.b1.frozen
    have f2 := hF.b2.frozen
    have HF := Lib.hid hF
    have HN := Lib.hid hN
    clear hF hN hF0 hT0 hT
    unfold txt
    by_cases hx : wdS x = s.data.toList
    · have hs : (⟨(wdS x).toArray⟩ : ByteArray) = s := by rw [hx]
      have HX := Lib.hid hx
      rw [hs]
      clear hx hs
      gi_wp2
      exact ⟨((KeepsOthers.setCell _ _ _).from _).trans ((KeepsOthers.setCell _ _ _).from _), rfl, pre, x, rfl, HX.out, HF.out.set _ _⟩
    · have hs : ¬ (⟨(wdS x).toArray⟩ : ByteArray) = s := fun e => hx (by rw [← e])
      have HX := Lib.hid hx
      clear hx
      generalize (⟨(wdS x).toArray⟩ : ByteArray) = y at *
      have hq : (y.toList == s.toList) = false := by
        rw [ByteArray.toList_eq, ByteArray.toList_eq, beq_eq_false_iff_ne]
        exact fun e => hs (by cases y; cases s; simp only [ByteArray.mk.injEq]; exact Array.toList_inj.1 e)
      clear hs
      gi_wp2
      exact ⟨KeepsFrom.refl _ _, Keep.refl _ _ _, HF.out, fun z hz => by
        rcases List.mem_append.1 hz with hz | hz
        · exact HN.out z hz
        · rw [List.mem_singleton] at hz; rw [hz]; exact HX.out⟩
  case done =>
    rintro D ys W hD rfl ⟨hF, hN⟩ hK
    have c1 := hF.b1.cell
    have c2 := hF.b2.cell
    have f1 := hF.b1.frozen
    have f2 := hF.b2.frozen
    have HF := Lib.hid hF
    have HN := Lib.hid (findN_none hN)
    clear hF hN hF0 hT0 hT
    have HS := Lib.hid (HF.out.set (.int .i64 0) (.bool false))
    gi_wp2
    refine ⟨by simp, .inl ⟨_, _, rfl, run_takeDeferred (by rw [show ((W.setCell ⟨w.heap.size + 1, 0, none⟩ (.int .i64 0)).setCell ⟨w.heap.size + 1 + 1, 0, none⟩ (.bool false)).heap[D]? = W.heap[D]? from ((Below.heap_setCell _ ⟨w.heap.size + 1 + 1, 0, none⟩ _ D (fun e => by have e2 : D = w.heap.size + 1 + 1 := (by first | exact e | exact e.symm); omega)).trans (Below.heap_setCell _ ⟨w.heap.size + 1, 0, none⟩ _ D (fun e => by have e2 : D = w.heap.size + 1 := (by first | exact e | exact e.symm); omega)))]; exact hK), ?_⟩⟩
    clear c1 c2 f1 f2
    have hG := HS.out.kept (row := some D) (grownBy_putObj' _ D (.deferred none)) (fun r e => by cases e; omega)
    generalize ((W.setCell ⟨w.heap.size + 1, 0, none⟩ (.int .i64 0)).setCell ⟨w.heap.size + 1 + 1, 0, none⟩ (.bool false)).putObj D (.deferred none) = W9 at *
    have c1 := hG.b1.cell
    have c2 := hG.b2.cell
    have l1 : (loadVar 3 ⟨w.heap.size + 1, 0, none⟩).run Tryd.prog W9 = .ok (.int .i64 0) W9 := by clear HF HN hG HS hK; go_simp
    have l2 : (loadVar 4 ⟨w.heap.size + 1 + 1, 0, none⟩).run Tryd.prog W9 = .ok (.bool false) W9 := by clear HF HN hG HS hK; go_simp
    refine ⟨_, results_cells (p := 2) (q := 3) rfl _ _ _ _ _ _ rfl rfl l1 l2, ?_⟩
    rw [HN.out]
    exact ⟨rfl, hG.below⟩
  case stop =>
    rintro D c pre W hD ⟨k, hk, rfl⟩ ⟨rfl, pre', x, e1, e2, h3⟩ hK
    gi_wp2
    refine ⟨by simp, .inl ⟨_, _, rfl, run_takeDeferred hK, ?_⟩⟩
    have hx : 1 ≤ x ∧ x ≤ 14 := by
      have hm : x ∈ told18 k := by rw [e1]; simp
      have := (told18_mem k x).1 hm
      omega
    have HN := Lib.hid (findN_some hx e2)
    have hG := h3.kept (row := some D) (grownBy_putObj' _ D (.deferred none)) (fun r e => by cases e; omega)
    clear h3 hF0 hT0 hT hK e1
    generalize W.putObj D (.deferred none) = W9 at *
    have c1 := hG.b1.cell
    have c2 := hG.b2.cell
    have HX := Lib.hid hx
    clear hx e2
    have l1 : (loadVar 3 ⟨w.heap.size + 1, 0, none⟩).run Tryd.prog W9 = .ok (.int .i64 (x : Nat)) W9 := by clear HN hG HX; go_simp
    have l2 : (loadVar 4 ⟨w.heap.size + 1 + 1, 0, none⟩).run Tryd.prog W9 = .ok (.bool true) W9 := by clear HN hG HX; go_simp
    refine ⟨_, results_cells (p := 2) (q := 3) rfl _ _ _ _ _ _ rfl rfl l1 l2, ?_⟩
    rw [HN.out, show decide (0 < x) = true from decide_eq_true (by have := HX.out; omega)]
    exact ⟨rfl, hG.below⟩
end Go.Proofs.YtpdbbeafleeajaaDoor.Al
