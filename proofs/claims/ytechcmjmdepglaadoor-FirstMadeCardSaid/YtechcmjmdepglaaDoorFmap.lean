/- Layer 9: first: the map of ways, and what Value tells. -/
import Derived.Test.YtechcmjmdepglaaDoorFval
import Derived.Maps.Own
import Derived.Maps.OwnOps
namespace Go.Proofs.YtechcmjmdepglaaDoor
open Go.RowKit Go.MapKept L64
set_option linter.unusedVariables false
set_option linter.unusedSimpArgs false
/-! ### A map that a call lays, key by key; a look-up in it -/
theorem run_insert_new {P : Program} {w : World} {T K E b : Nat} {k : IntKind} (hT : P.underlying T = some (.map K E)) (hK : P.underlying K = some (.int k)) {es : Array MapEntry} {clock : Nat} {key : Int} (v : Value)
    (hb : w.heap[b]? = some (.map es clock)) (hnew : Instr.findNow (.int k) (.int k key) es.toList 0 = some none) :
    (Instr.mapUpdate T (.map (some b)) (.int k key) v).run P w = .ok () { w with heap := w.heap.setIfInBounds b (.map (es.push { key := .int k key, val := v, born := clock }) (clock + 1)) } := by
  have h1 := run_checkKey (w := w) hK (k := .int k key) (by simp [IsKey]) false 9999
  rw [show 9999 + 1 = 10000 from rfl] at h1
  have h2 := run_findKey (w := w) hK hnew
  have h3 := run_setObj_map (P := P) (.map (es.push { key := .int k key, val := v, born := clock }) (clock + 1)) hb
  simp [Instr.mapUpdate, run_underlying hT, Go.MapKept.run_getObj_map hb, h1, h2, h3, Result.andThen]
theorem wpList_insert_new {P : Program} {w : World} {ops : Array Oper} {rest : List Oper} {o : Oper} {a : Act} {Q : Exit → Act → World → Prop} (hgd : o.guard = none) (m k x : Operand) (T : TypeId) (ho : o.op = .insert T m k x)
    {K E : TypeId} {kd : IntKind} (hT : P.underlying T = some (.map K E)) (hK : P.underlying K = some (.int kd)) (b : Nat) (es : Array MapEntry) (clock : Nat) (key : Int) (v : Value) (hm : a.eval m = .map (some b)) (hk : a.eval k = .int kd key) (hx : a.eval x = v)
    (hb : w.heap[b]? = some (.map es clock)) (hnew : Instr.findNow (.int kd) (.int kd key) es.toList 0 = some none) {B : Nat} (hB : B ≤ b)
    (h : ∀ w', Below B w w' → w'.heap[b]? = some (.map (es.push { key := .int kd key, val := v, born := clock }) (clock + 1)) → wpList P ops Q rest (a.put o.dst undef) w') : wpList P ops Q (o :: rest) a w := by
  refine wpList_plain hgd fun J hJ => ?_
  have hrun := run_insert_new (v := v) hT hK hb hnew
  have hlt : b < w.heap.size := (Array.getElem?_eq_some_iff.1 hb).1
  unfold Oper.wp
  simp [execOp, ho, hm, hk, hx, hrun, Result.andThen]
  refine hJ _ _ (h _ ⟨rfl, rfl, rfl, by simp, fun n hn => ?_⟩ ?_)
  · simp [Array.getElem?_setIfInBounds, show ¬ b = n by omega]
  · simp [Array.getElem?_setIfInBounds, hlt]
theorem run_lookup_ok {P : Program} {w : World} {T K E b : Nat} {k : IntKind} (hT : P.underlying T = some (.map K E)) (hK : P.underlying K = some (.int k)) {es : Array MapEntry} {clock : Nat} {key : Int} {i : Nat} {v : Value}
    (hb : w.heap[b]? = some (.map es clock)) (hf : Instr.findNow (.int k) (.int k key) es.toList 0 = some (some (i, v))) :
    (Instr.lookup T (.map (some b)) (.int k key) true).run P w = .ok (.tuple #[v, .bool true]) w := by
  have h1 := run_checkKey (w := w) hK (k := .int k key) (by simp [IsKey]) es.isEmpty 9999
  rw [show 9999 + 1 = 10000 from rfl] at h1
  have h2 := run_findKey (w := w) hK hf
  simp [Instr.lookup, run_underlying hT, Go.MapKept.run_getObj_map hb, h1, h2, Result.andThen]
theorem run_lookup_no {P : Program} {w : World} {T K E b : Nat} {k : IntKind} (hT : P.underlying T = some (.map K E)) (hK : P.underlying K = some (.int k)) {es : Array MapEntry} {clock : Nat} {key : Int} {v : Value}
    (hb : w.heap[b]? = some (.map es clock)) (hf : Instr.findNow (.int k) (.int k key) es.toList 0 = some none) (hz : (zeroValue E).run P w = .ok v w) :
    (Instr.lookup T (.map (some b)) (.int k key) true).run P w = .ok (.tuple #[v, .bool false]) w := by
  have h1 := run_checkKey (w := w) hK (k := .int k key) (by simp [IsKey]) es.isEmpty 9999
  rw [show 9999 + 1 = 10000 from rfl] at h1
  have h2 := run_findKey (w := w) hK hf
  simp [Instr.lookup, run_underlying hT, Go.MapKept.run_getObj_map hb, h1, h2, hz, Result.andThen]
theorem wpList_lookup_is {P : Program} {w : World} {ops : Array Oper} {rest : List Oper} {o : Oper} {a : Act} {Q : Exit → Act → World → Prop} (hgd : o.guard = none) (m x : Operand) (T : TypeId) (c : Bool) (hop : o.op = Op.lookup T m x c)
    (mv kv v : Value) (hm : a.eval m = mv) (hx : a.eval x = kv) (hrun : (Instr.lookup T mv kv c).run P w = .ok v w) (h : wpList P ops Q rest (a.put o.dst v) w) : wpList P ops Q (o :: rest) a w := by
  refine wpList_plain hgd fun J hJ => ?_
  unfold Oper.wp
  simp [execOp, hop, hm, hx, hrun, Result.andThen]
  exact hJ _ _ h
theorem findNow_none {k : IntKind} {key : Int} : ∀ (l : List MapEntry) (i : Nat), (∀ x ∈ l, ∃ a, x.key = .int k a ∧ (key == a) = false) → Instr.findNow (.int k) (.int k key) l i = some none
  | [], _, _ => rfl
  | e :: es, i, h => by
    obtain ⟨a, ha, hn⟩ := h e (List.mem_cons_self ..)
    unfold Instr.findNow
    rw [ha]
    simp only [Instr.sameNow, if_true, hn]
    exact findNow_none es (i + 1) fun x hx => h x (List.mem_cons_of_mem _ hx)
def wayV (f : Nat) (bits : Int) : Value := .agg #[.func (.func f) #[] #[], .int .i64 bits]
def wayE (n : Nat) : MapEntry := { key := .int .i64 ((n : Int) + 1), val := wayV (if n < 4 then 22 else 8) ([224, 256, 384, 512, 224, 256].getD n 0), born := n }
def waysE (n : Nat) : Array MapEntry := ((List.range n).map wayE).toArray
theorem waysE_push (n : Nat) : (waysE n).push (wayE n) = waysE (n + 1) := by
  unfold waysE; rw [List.range_succ, List.map_append, List.push_toArray]; rfl
set_option maxRecDepth 20000 in
set_option maxHeartbeats 1000000 in
theorem ways_any (w : World) : Calls Tryd.prog 14 #[] w fun e w' => ∃ g, e = .returned (.map (some g)) ∧ w'.heap[g]? = some (.map (waysE 6) 6) ∧ Below w.heap.size w w' := by
  have hmm := @run_makeMap Tryd.prog
  have hb0 : (w.alloc (.map #[] 0)).heap[w.heap.size]? = some (.map #[] 0) := heap_alloc_new _ _
  have hB0 := (Below.refl w.heap.size w).alloc (Nat.le_refl _) (.map #[] 0)
  go_enter Tryd.func14, Tryd.ntmps14
  go_wp2_with (first
    | (refine wpList_insert_new rfl (.tmp 1) (.const (.int .i64 1)) (.tmp 2) 38 rfl (kd := .i64) Tryd.underlying38 Tryd.underlying3 w.heap.size #[] 0 1 _ rfl rfl rfl hb0 (by rfl) (Nat.le_refl _) ?_
       intro w1 hb1 hm1
       replace hb1 := hB0.trans hb1)
    | (refine wpList_insert_new rfl (.tmp 1) (.const (.int .i64 2)) (.tmp 3) 38 rfl (kd := .i64) Tryd.underlying38 Tryd.underlying3 w.heap.size _ _ 2 _ rfl rfl rfl hm1 (by rfl) (Nat.le_refl _) ?_
       intro w2 hb2 hm2
       replace hb2 := hb1.trans hb2)
    | (refine wpList_insert_new rfl (.tmp 1) (.const (.int .i64 3)) (.tmp 4) 38 rfl (kd := .i64) Tryd.underlying38 Tryd.underlying3 w.heap.size _ _ 3 _ rfl rfl rfl hm2 (by rfl) (Nat.le_refl _) ?_
       intro w3 hb3 hm3
       replace hb3 := hb2.trans hb3)
    | (refine wpList_insert_new rfl (.tmp 1) (.const (.int .i64 4)) (.tmp 5) 38 rfl (kd := .i64) Tryd.underlying38 Tryd.underlying3 w.heap.size _ _ 4 _ rfl rfl rfl hm3 (by rfl) (Nat.le_refl _) ?_
       intro w4 hb4 hm4
       replace hb4 := hb3.trans hb4)
    | (refine wpList_insert_new rfl (.tmp 1) (.const (.int .i64 5)) (.tmp 6) 38 rfl (kd := .i64) Tryd.underlying38 Tryd.underlying3 w.heap.size _ _ 5 _ rfl rfl rfl hm4 (by rfl) (Nat.le_refl _) ?_
       intro w5 hb5 hm5
       replace hb5 := hb4.trans hb5)
    | (refine wpList_insert_new rfl (.tmp 1) (.const (.int .i64 6)) (.tmp 7) 38 rfl (kd := .i64) Tryd.underlying38 Tryd.underlying3 w.heap.size _ _ 6 _ rfl rfl rfl hm5 (by rfl) (Nat.le_refl _) ?_
       intro w6 hb6 hm6
       replace hb6 := hb5.trans hb6)
    | fail)
  go_ret
  exact ⟨_, rfl, hm6, hb6⟩
/-- What the map holds of a key, if anything. -/
theorem waysE_find (key : Int) : (∃ n : Nat, n < 6 ∧ key = (n : Int) + 1 ∧ Instr.findNow (.int .i64) (.int .i64 key) (waysE 6).toList 0 = some (some (n, (wayE n).val))) ∨
    ((key < 1 ∨ 6 < key) ∧ Instr.findNow (.int .i64) (.int .i64 key) (waysE 6).toList 0 = some none) := by
  by_cases h : 1 ≤ key ∧ key ≤ 6
  · left
    have : key = 1 ∨ key = 2 ∨ key = 3 ∨ key = 4 ∨ key = 5 ∨ key = 6 := by omega
    rcases this with rfl | rfl | rfl | rfl | rfl | rfl
    · exact ⟨0, by omega, rfl, by rfl⟩
    · exact ⟨1, by omega, rfl, by rfl⟩
    · exact ⟨2, by omega, rfl, by rfl⟩
    · exact ⟨3, by omega, rfl, by rfl⟩
    · exact ⟨4, by omega, rfl, by rfl⟩
    · exact ⟨5, by omega, rfl, by rfl⟩
  · right
    refine ⟨by omega, findNow_none _ _ fun x hx => ?_⟩
    obtain ⟨n, hn, rfl⟩ := List.mem_map.1 (show x ∈ (List.range 6).map wayE from hx)
    have := List.mem_range.1 hn
    exact ⟨(n : Int) + 1, rfl, beq_eq_false_iff_ne.2 (by omega)⟩
set_option maxRecDepth 20000 in
set_option maxHeartbeats 1000000 in
theorem listed_any (b : Int) (w : World) : Calls Tryd.prog 22 #[.int .i64 b] w fun e w' => e = .returned (pairV (firstN b) (hasB b)) ∧ Below w.heap.size w w' := by
  have HF := Lib.hid (fun W => first_any b W)
  have HH := Lib.hid (fun W => has_any b W)
  have r1 : RowOk (w.alloc (.cells (uTab 8 fun _ => 0) 24)) w.heap.size 8 := (RowOk_alloc_at rfl).2 (uTab_size _ _)
  have HB0 := Lib.hid ((Below.refl w.heap.size w).alloc (Nat.le_refl _) (.cells (uTab 8 fun _ => 0) 24))
  unfold pairV
  generalize hasB b = ok at *
  generalize firstN b = X at *
  go_enter Tryd.func22, Tryd.ntmps22
  go_wp2_with fail
  refine (HF.out _).mono ?_
  rintro e w1 ⟨rfl, hb1⟩
  have q := (row_below ⟨r1, rfl⟩ hb1).1
  have HB1 := Lib.hid (HB0.out.trans (hb1.mono (by simp)))
  clear r1 HB0 hb1
  go_wp2_with fail
  refine (HH.out _).mono ?_
  rintro e w2 ⟨rfl, rfl⟩
  obtain ⟨tt, hg3, -⟩ := ((RowOk_setRow_at q).2 (uTab_size 8 X)).heap
  rw [rowAt_setRow_at q] at hg3
  have HG3 := Lib.hid hg3
  clear hg3
  go_wp2
  exact bodyPost_ret (L64.results_row_tmp8 (p := 2) (q := 3) rfl _ _ w.heap.size tt _ (0, 0) _ rfl HG3.out Tryd.underlying24 rfl (by kernel_rfl)) rfl ⟨rfl, below_setRow HB1.out (Nat.le_refl _) _⟩
set_option maxRecDepth 20000 in
set_option maxHeartbeats 1000000 in
theorem truncated_none (n : Int) (h1 : (n == 224) = false) (h2 : (n == 256) = false) (w : World) : Calls Tryd.prog 8 #[.int .i64 n] w fun e w' => e = .returned (pairV (fun _ => 0) false) ∧ Below w.heap.size w w' := by
  have e1 : (n != 224) = true := by unfold bne; rw [h1]; rfl
  have e2 : (n != 256) = true := by unfold bne; rw [h2]; rfl
  clear h1 h2
  unfold pairV
  go_enter Tryd.func8, Tryd.ntmps8
  go_wp2_with fail
  have q : RowOk (w.alloc (.cells (uTab 8 fun _ => 0) 24)) w.heap.size 8 := (RowOk_alloc_at rfl).2 (uTab_size _ _)
  have hg := heap_alloc_new w (.cells (uTab 8 fun _ => 0) 24)
  exact bodyPost_ret (L64.results_row_tmp8 (p := 2) (q := 3) rfl _ _ w.heap.size _ _ (0, 0) _ rfl hg Tryd.underlying24 rfl (by kernel_rfl)) rfl ⟨rfl, (Below.refl _ _).alloc (Nat.le_refl _) _⟩
set_option maxRecDepth 20000 in
set_option maxHeartbeats 1000000 in
theorem value_listed (key : Int) (i : Nat) (bits : Int) (f : Nat → Nat) (ok : Bool) (w : World) (ht : FirstTabs w) (hf : Instr.findNow (.int .i64) (.int .i64 key) (waysE 6).toList 0 = some (some (i, wayV 22 bits)))
    (HC : Hid (∀ W, FirstTabs W → Calls Tryd.prog 22 #[.int .i64 bits] W fun e w' => e = .returned (pairV f ok) ∧ Below W.heap.size W w')) :
    Calls Tryd.prog 7 #[.int .i64 key] w fun e w' => e = .returned (pairV f ok) ∧ Below w.heap.size w w' := by
  have HW := Lib.hid (fun W => ways_any W)
  have HF := Lib.hid hf
  have r1 : RowOk (w.alloc (.cells (uTab 8 fun _ => 0) 24)) w.heap.size 8 := (RowOk_alloc_at rfl).2 (uTab_size _ _)
  have HB0 := Lib.hid ((Below.refl w.heap.size w).alloc (Nat.le_refl _) (.cells (uTab 8 fun _ => 0) 24))
  clear hf
  go_enter Tryd.func7, Tryd.ntmps7
  go_wp2_with fail
  refine (HW.out _).mono ?_
  rintro e w1 ⟨g, rfl, hm, hb1⟩
  have q := (row_below ⟨r1, rfl⟩ hb1).1
  have hlk := run_lookup_ok Tryd.underlying38 Tryd.underlying3 hm HF.out
  unfold wayV at hlk
  have HB1 := Lib.hid (HB0.out.trans (hb1.mono (by simp)))
  have HQ := Lib.hid q
  clear r1 HB0 hb1 hm q
  go_wp2_with (first
    | (at_lookup; refine wpList_lookup_is rfl (.tmp 7) (.tmp 8) 38 true rfl _ _ _ rfl rfl hlk ?_)
    | fail)
  have hs := HB1.out.size
  refine (HC.out _ (ht.below (HB1.out.alloc hs _))).mono ?_
  rintro e u1 ⟨rfl, hq1⟩
  have q := HQ.out
  have q2 := (row_below ⟨(RowOk_alloc_past q.lt).2 q, rfl⟩ hq1).1
  obtain ⟨tt, hg3, -⟩ := ((RowOk_setRow_at q2).2 (uTab_size 8 f)).heap
  rw [rowAt_setRow_at q2] at hg3
  have HG3 := Lib.hid hg3
  have HB3 := Lib.hid ((HB1.out.alloc hs (.cells #[.func (.func 22) #[] #[], .int .i64 bits] 36)).trans (hq1.mono (Nat.le_trans hs ((Below.refl _ _).alloc (Nat.le_refl _) _).size)))
  clear hg3 q hq1 hlk HQ HF HW HC
  unfold pairV
  go_wp2
  exact bodyPost_ret (L64.results_row_tmp8 (p := 2) (q := 3) rfl _ _ w.heap.size tt _ (0, 0) _ rfl HG3.out Tryd.underlying24 rfl (by kernel_rfl)) rfl ⟨rfl, below_setRow HB3.out (Nat.le_refl _) _⟩
set_option maxRecDepth 20000 in
set_option maxHeartbeats 1000000 in
theorem value_trunc (key : Int) (i : Nat) (bits : Int) (f : Nat → Nat) (ok : Bool) (w : World) (ht : FirstTabs w) (hf : Instr.findNow (.int .i64) (.int .i64 key) (waysE 6).toList 0 = some (some (i, wayV 8 bits)))
    (HC : Hid (∀ W, FirstTabs W → Calls Tryd.prog 8 #[.int .i64 bits] W fun e w' => e = .returned (pairV f ok) ∧ Below W.heap.size W w')) :
    Calls Tryd.prog 7 #[.int .i64 key] w fun e w' => e = .returned (pairV f ok) ∧ Below w.heap.size w w' := by
  have HW := Lib.hid (fun W => ways_any W)
  have HF := Lib.hid hf
  have r1 : RowOk (w.alloc (.cells (uTab 8 fun _ => 0) 24)) w.heap.size 8 := (RowOk_alloc_at rfl).2 (uTab_size _ _)
  have HB0 := Lib.hid ((Below.refl w.heap.size w).alloc (Nat.le_refl _) (.cells (uTab 8 fun _ => 0) 24))
  clear hf
  go_enter Tryd.func7, Tryd.ntmps7
  go_wp2_with fail
  refine (HW.out _).mono ?_
  rintro e w1 ⟨g, rfl, hm, hb1⟩
  have q := (row_below ⟨r1, rfl⟩ hb1).1
  have hlk := run_lookup_ok Tryd.underlying38 Tryd.underlying3 hm HF.out
  unfold wayV at hlk
  have HB1 := Lib.hid (HB0.out.trans (hb1.mono (by simp)))
  have HQ := Lib.hid q
  clear r1 HB0 hb1 hm q
  go_wp2_with (first
    | (at_lookup; refine wpList_lookup_is rfl (.tmp 7) (.tmp 8) 38 true rfl _ _ _ rfl rfl hlk ?_)
    | fail)
  have hs := HB1.out.size
  refine (HC.out _ (ht.below (HB1.out.alloc hs _))).mono ?_
  rintro e u1 ⟨rfl, hq1⟩
  have q := HQ.out
  have q2 := (row_below ⟨(RowOk_alloc_past q.lt).2 q, rfl⟩ hq1).1
  obtain ⟨tt, hg3, -⟩ := ((RowOk_setRow_at q2).2 (uTab_size 8 f)).heap
  rw [rowAt_setRow_at q2] at hg3
  have HG3 := Lib.hid hg3
  have HB3 := Lib.hid ((HB1.out.alloc hs (.cells #[.func (.func 8) #[] #[], .int .i64 bits] 36)).trans (hq1.mono (Nat.le_trans hs ((Below.refl _ _).alloc (Nat.le_refl _) _).size)))
  clear hg3 q hq1 hlk HQ HF HW HC
  unfold pairV
  go_wp2
  exact bodyPost_ret (L64.results_row_tmp8 (p := 2) (q := 3) rfl _ _ w.heap.size tt _ (0, 0) _ rfl HG3.out Tryd.underlying24 rfl (by kernel_rfl)) rfl ⟨rfl, below_setRow HB3.out (Nat.le_refl _) _⟩
set_option maxRecDepth 20000 in
set_option maxHeartbeats 1000000 in
theorem value_none (key : Int) (w : World) (hf : Instr.findNow (.int .i64) (.int .i64 key) (waysE 6).toList 0 = some none) :
    Calls Tryd.prog 7 #[.int .i64 key] w fun e w' => e = .returned (pairV (fun _ => 0) false) ∧ Below w.heap.size w w' := by
  have HW := Lib.hid (fun W => ways_any W)
  have HF := Lib.hid hf
  have hz : ∀ W, (zeroValue 36).run Tryd.prog W = .ok (.agg #[.nilFunc, .int .i64 0]) W := fun W => by kernel_rfl
  have HZ := Lib.hid hz
  have r1 : RowOk (w.alloc (.cells (uTab 8 fun _ => 0) 24)) w.heap.size 8 := (RowOk_alloc_at rfl).2 (uTab_size _ _)
  have HB0 := Lib.hid ((Below.refl w.heap.size w).alloc (Nat.le_refl _) (.cells (uTab 8 fun _ => 0) 24))
  clear hf hz
  go_enter Tryd.func7, Tryd.ntmps7
  go_wp2_with fail
  refine (HW.out _).mono ?_
  rintro e w1 ⟨g, rfl, hm, hb1⟩
  have q := (row_below ⟨r1, rfl⟩ hb1).1
  have hlk := run_lookup_no Tryd.underlying38 Tryd.underlying3 hm HF.out (HZ.out w1)
  have HB1 := Lib.hid (HB0.out.trans (hb1.mono (by simp)))
  have q2 : RowOk (w1.alloc (.cells #[.nilFunc, .int .i64 0] 36)) w.heap.size 8 := (RowOk_alloc_past q.lt).2 q
  obtain ⟨tt, hg4, -⟩ := ((RowOk_setRow_at q).2 (uTab_size 8 fun _ => 0)).heap
  rw [rowAt_setRow_at q] at hg4
  have hs4 : w1.heap.size = (w1.setRow w.heap.size (uTab 8 fun _ => 0)).heap.size := by simp [World.setRow]
  have hg3 := (((Below.refl w1.heap.size _).alloc (Nat.le_of_eq hs4) (.cells #[.nilFunc, .int .i64 0] 36)).block _ q.lt).trans hg4
  have HG3 := Lib.hid hg3
  have HB3 := Lib.hid ((below_setRow HB1.out (Nat.le_refl _) (uTab 8 fun _ => 0)).alloc (Nat.le_trans HB1.out.size (Nat.le_of_eq hs4)) (.cells #[.nilFunc, .int .i64 0] 36))
  have hne : ¬ (w.heap.size = w1.heap.size) := Nat.ne_of_lt q.lt
  clear r1 HB0 hb1 hm q hg3 hg4 hs4
  go_wp2_with (first
    | (at_lookup; refine wpList_lookup_is rfl (.tmp 7) (.tmp 8) 38 true rfl _ _ _ rfl rfl hlk ?_)
    | fail)
  exact bodyPost_ret (L64.results_row_tmp8 (p := 2) (q := 3) rfl _ _ w.heap.size tt _ (0, 0) _ rfl HG3.out Tryd.underlying24 rfl (by kernel_rfl)) rfl ⟨rfl, HB3.out⟩
/-- What an algorithm begins with. -/
def valN (key : Int) : Nat → Nat := if key = 1 then firstN 224 else if key = 2 then firstN 256 else if key = 3 then firstN 384 else if key = 4 then firstN 512 else if key = 5 then truncN true else if key = 6 then truncN false else fun _ => 0
def valOk (key : Int) : Bool := decide (1 ≤ key) && decide (key ≤ 6)
theorem value_any (key : Int) (w : World) (ht : FirstTabs w) : Calls Tryd.prog 7 #[.int .i64 key] w fun e w' => e = .returned (pairV (valN key) (valOk key)) ∧ Below w.heap.size w w' := by
  have HL : ∀ b, hasB b = true → ∀ W, FirstTabs W → Calls Tryd.prog 22 #[.int .i64 b] W fun e w' => e = .returned (pairV (firstN b) true) ∧ Below W.heap.size W w' := fun b hb W _ => by
    have h := listed_any b W
    rwa [hb] at h
  rcases waysE_find key with ⟨n, hn, rfl, hf⟩ | ⟨hk, hf⟩
  · match n, hn, hf with
    | 0, _, hf => exact value_listed _ _ _ _ _ w ht hf (HL 224 rfl)
    | 1, _, hf => exact value_listed _ _ _ _ _ w ht hf (HL 256 rfl)
    | 2, _, hf => exact value_listed _ _ _ _ _ w ht hf (HL 384 rfl)
    | 3, _, hf => exact value_listed _ _ _ _ _ w ht hf (HL 512 rfl)
    | 4, _, hf => exact value_trunc _ _ _ _ _ w ht hf (fun W h => truncated_any true W h)
    | 5, _, hf => exact value_trunc _ _ _ _ _ w ht hf (fun W h => truncated_any false W h)
    | n + 6, hn, _ => omega
  · have e1 : valN key = fun _ => 0 := by
      unfold valN
      rw [if_neg (by omega), if_neg (by omega), if_neg (by omega), if_neg (by omega), if_neg (by omega), if_neg (by omega)]
    have e2 : valOk key = false := by
      unfold valOk
      rcases hk with h | h
      · rw [decide_eq_false (by omega)]; rfl
      · rw [decide_eq_false (show ¬ key ≤ 6 by omega), Bool.and_false]
    rw [e1, e2]
    exact value_none key w hf
theorem valN_lt (key : Int) : ∀ i, valN key i < 18446744073709551616 := by
  unfold valN
  split; · exact firstN_lt _
  split; · exact firstN_lt _
  split; · exact firstN_lt _
  split; · exact firstN_lt _
  split; · exact truncN_lt _
  split; · exact truncN_lt _
  intro i; show 0 < _; decide
def trN (n : Int) : Nat → Nat := if n = 224 then truncN true else if n = 256 then truncN false else fun _ => 0
def trOk (n : Int) : Bool := n == 224 || n == 256
theorem trN_lt (n : Int) : ∀ i, trN n i < 18446744073709551616 := by
  unfold trN
  split; · exact truncN_lt _
  split; · exact truncN_lt _
  intro i; show 0 < _; decide
theorem trunc_any (n : Int) (w : World) (ht : FirstTabs w) : Calls Tryd.prog 8 #[.int .i64 n] w fun e w' => e = .returned (pairV (trN n) (trOk n)) ∧ Below w.heap.size w w' := by
  by_cases h1 : n = 224
  · subst h1; exact truncated_any true w ht
  by_cases h2 : n = 256
  · subst h2; exact truncated_any false w ht
  have e1 : trN n = fun _ => 0 := by unfold trN; rw [if_neg h1, if_neg h2]
  have e2 : trOk n = false := by unfold trOk; rw [beq_eq_false_iff_ne.2 h1, beq_eq_false_iff_ne.2 h2]; rfl
  rw [e1, e2]
  exact truncated_none n (beq_eq_false_iff_ne.2 h1) (beq_eq_false_iff_ne.2 h2) w
def rL (f : Nat → Nat) : List Nat := (List.range 8).map f
theorem rL_words (w : World) (t : TypeId) (f : Nat → Nat) {c : Array Value} (h : c = uTab 8 f) : Words .u64 (w.alloc (.cells c t)) (some ⟨w.heap.size, 0, none⟩) (rL f) := words_new w t .u64 (rL f) (by rw [h, uTab_cells]; unfold rL; exact uTab_congr fun i hi => by rw [getD_map _ _ _ _ hi])
set_option maxHeartbeats 1000000 in
theorem refTruncated_any (n : Int) (f : Nat → Nat) (h : (n = 224 ∧ ∀ i, i < 8 → f i = (tL true).getD i 0) ∨ (n = 256 ∧ ∀ i, i < 8 → f i = (tL false).getD i 0) ∨ ((n == 224) = false ∧ (n == 256) = false ∧ ∀ i, i < 8 → f i = 0)) (w : World) :
    Calls Tryd.prog 11 #[.int .i64 n] w fun e w' => ∃ g, e = .returned (.slice (some ⟨g, 0, none⟩) 8 8) ∧ Words .u64 w' (some ⟨g, 0, none⟩) (rL f) ∧ Below w.heap.size w w' := by
  rcases h with ⟨rfl, h⟩ | ⟨rfl, h⟩ | ⟨h1, h2, h⟩
  · go_enter Tryd.func11, Tryd.ntmps11
    go_wp2
    go_ret
    exact ⟨_, rfl, rL_words w _ f (by rw [uTab_congr h]; kernel_rfl), (Below.refl _ _).alloc (Nat.le_refl _) _⟩
  · go_enter Tryd.func11, Tryd.ntmps11
    go_wp2
    go_ret
    exact ⟨_, rfl, rL_words w _ f (by rw [uTab_congr h]; kernel_rfl), (Below.refl _ _).alloc (Nat.le_refl _) _⟩
  · go_enter Tryd.func11, Tryd.ntmps11
    go_wp2
    go_ret
    exact ⟨_, rfl, rL_words w _ f (by rw [uTab_congr h]; kernel_rfl), (Below.refl _ _).alloc (Nat.le_refl _) _⟩
theorem refTrunc_any (n : Int) (w : World) : Calls Tryd.prog 11 #[.int .i64 n] w fun e w' => ∃ g, e = .returned (.slice (some ⟨g, 0, none⟩) 8 8) ∧ Words .u64 w' (some ⟨g, 0, none⟩) (rL (trN n)) ∧ Below w.heap.size w w' := by
  refine refTruncated_any n _ ?_ w
  by_cases h1 : n = 224
  · exact .inl ⟨h1, fun i hi => by unfold trN; rw [if_pos h1]; exact truncN_is true i hi⟩
  by_cases h2 : n = 256
  · exact .inr (.inl ⟨h2, fun i hi => by unfold trN; rw [if_neg h1, if_pos h2]; exact truncN_is false i hi⟩)
  exact .inr (.inr ⟨beq_eq_false_iff_ne.2 h1, beq_eq_false_iff_ne.2 h2, fun i hi => by unfold trN; rw [if_neg h1, if_neg h2]⟩)
theorem refFirst_rL (b : Int) (w : World) : Calls Tryd.prog 12 #[.int .i64 b] w fun e w' => ∃ g, e = .returned (.slice (some ⟨g, 0, none⟩) 8 8) ∧ Words .u64 w' (some ⟨g, 0, none⟩) (rL (firstN b)) ∧ Below w.heap.size w w' :=
  (refFirst_words b w).mono fun e w' ⟨g, he, hw, _, hb⟩ => ⟨g, he, hw, hb⟩
set_option maxRecDepth 20000 in
set_option maxHeartbeats 1000000 in
theorem refValue_any (key : Int) (w : World) : Calls Tryd.prog 10 #[.int .i64 key] w fun e w' => ∃ g, e = .returned (.slice (some ⟨g, 0, none⟩) 8 8) ∧ Words .u64 w' (some ⟨g, 0, none⟩) (rL (valN key)) ∧ Below w.heap.size w w' := by
  have HF := Lib.hid (fun b W => refFirst_rL b W)
  have HT := Lib.hid (fun b W => refTrunc_any b W)
  by_cases h1 : key = 1
  · subst h1
    go_enter Tryd.func10, Tryd.ntmps10
    go_wp2_with fail
    refine (HF.out _ _).mono ?_
    rintro e w1 ⟨g, rfl, hw, hb⟩
    go_wp2
    go_ret
    exact ⟨g, rfl, hw, hb⟩
  by_cases h2 : key = 2
  · subst h2
    go_enter Tryd.func10, Tryd.ntmps10
    go_wp2_with fail
    refine (HF.out _ _).mono ?_
    rintro e w1 ⟨g, rfl, hw, hb⟩
    go_wp2
    go_ret
    exact ⟨g, rfl, hw, hb⟩
  by_cases h3 : key = 3
  · subst h3
    go_enter Tryd.func10, Tryd.ntmps10
    go_wp2_with fail
    refine (HF.out _ _).mono ?_
    rintro e w1 ⟨g, rfl, hw, hb⟩
    go_wp2
    go_ret
    exact ⟨g, rfl, hw, hb⟩
  by_cases h4 : key = 4
  · subst h4
    go_enter Tryd.func10, Tryd.ntmps10
    go_wp2_with fail
    refine (HF.out _ _).mono ?_
    rintro e w1 ⟨g, rfl, hw, hb⟩
    go_wp2
    go_ret
    exact ⟨g, rfl, hw, hb⟩
  by_cases h5 : key = 5
  · subst h5
    go_enter Tryd.func10, Tryd.ntmps10
    go_wp2_with fail
    refine (HT.out _ _).mono ?_
    rintro e w1 ⟨g, rfl, hw, hb⟩
    go_wp2
    go_ret
    exact ⟨g, rfl, hw, hb⟩
  by_cases h6 : key = 6
  · subst h6
    go_enter Tryd.func10, Tryd.ntmps10
    go_wp2_with fail
    refine (HT.out _ _).mono ?_
    rintro e w1 ⟨g, rfl, hw, hb⟩
    go_wp2
    go_ret
    exact ⟨g, rfl, hw, hb⟩
  have e0 : valN key = trN 0 := by
    unfold valN
    rw [if_neg h1, if_neg h2, if_neg h3, if_neg h4, if_neg h5, if_neg h6]
    rfl
  have e1 : (key == 1) = false := beq_eq_false_iff_ne.2 h1
  have e2 : (key == 2) = false := beq_eq_false_iff_ne.2 h2
  have e3 : (key == 3) = false := beq_eq_false_iff_ne.2 h3
  have e4 : (key == 4) = false := beq_eq_false_iff_ne.2 h4
  have e5 : (key == 5) = false := beq_eq_false_iff_ne.2 h5
  have e6 : (key == 6) = false := beq_eq_false_iff_ne.2 h6
  rw [e0]
  clear h1 h2 h3 h4 h5 h6 e0
  go_enter Tryd.func10, Tryd.ntmps10
  go_wp2_with fail
  refine (HT.out _ _).mono ?_
  rintro e w1 ⟨g, rfl, hw, hb⟩
  go_wp2
  go_ret
  exact ⟨g, rfl, hw, hb⟩
end Go.Proofs.YtechcmjmdepglaaDoor
