/- part -/
import Derived.Test.YtenffmfklmialaaGreatDoorBnq
import Derived.Maps.Own
import Derived.Maps.OwnOps
import Derived.Laws.IdiomRangeMap
import Derived.Deep.RegionLaw
import Derived.Test.YtenffmfklmialaaGreatDoorBni
set_option linter.unusedVariables false
set_option linter.unusedSimpArgs false
set_option maxHeartbeats 8000000
namespace Go.Proofs.YtenffmfklmialaaGreatDoor.Cd
section
open Go.RowKit Go.MapKept
set_option maxRecDepth 20000
theorem conv_any {w : World} {A : Option Addr} {xs : List Nat} (c : Nat) (hw : Words .u8 w A xs) : (convert 22 9 (.slice A xs.length c)).run Star.prog w = .ok (.string (strOfNums (intsN xs))) w := by
 by_cases h0 : xs = []
 · subst h0
   rcases A with _ | a
   · exact run_convert_bytes_nil w 22 5 Star.underlying22 Star.underlying5 0 c 9 Star.underlying9
   · have hl : (loadCells a 0).run Star.prog w = .ok ([].map (Value.int .u8)).toArray w := run_loadCells_list (P := Star.prog) w a [] (fun j v hj => by simp at hj)
     show (convert 22 9 (.slice (some a) 0 c)).run Star.prog w = _
     rw [run_convert_bytes_string w 22 9 5 _ 0 c Star.underlying22 Star.underlying5 Star.underlying9, run_bytesToString w a 0 c [] hl]
     rfl
 · exact conv_words c hw h0
theorem equal_all (A : Option Addr) (c : Nat) (xs : List Nat) (B : Option Addr) (d : Nat) (ys : List Nat) (hx : AllLt 256 xs) (hy : AllLt 256 ys) (w : World) (hw : Words .u8 w A xs) (hw2 : Words .u8 w B ys) :
 Calls Star.prog 47 #[.slice A xs.length c, .slice B ys.length d] w fun e w' => e = .returned (.bool (decide (xs = ys))) ∧ w = w' := by
 rw [← bytes_eq hx hy, ← Lib.strOfNums_toList, ← Lib.strOfNums_toList]
 have h1 := conv_any c hw
 have h2 := conv_any d hw2
 clear hx hy hw hw2
 generalize strOfNums (intsN xs) = s1 at *
 generalize strOfNums (intsN ys) = s2 at *
 go_enter Star.func47, Star.ntmps47
 go_wp2
 go_ret
 exact ⟨rfl, rfl⟩
theorem texts_any (s1 s2 : Value) (A : Option Addr) (n c : Nat) (B : Option Addr) (m d : Nat) (hs1 : s1 = .slice A n c) (hs2 : s2 = .slice B m d) (w : World) :
 Calls Star.prog 48 #[.agg #[s1, s2]] w fun e w' => e = .returned s1 ∧ Below w.heap.size w w' := by
 subst hs1 hs2
 go_enter Star.func48, Star.ntmps48
 go_wp2
 go_ret
 exact ⟨rfl, (Below.refl _ _).alloc (Nat.le_refl _) _⟩
theorem textn_any (s1 s2 : Value) (A : Option Addr) (n c : Nat) (B : Option Addr) (m d : Nat) (hs1 : s1 = .slice A n c) (hs2 : s2 = .slice B m d) (w : World) :
 Calls Star.prog 49 #[.agg #[s1, s2]] w fun e w' => e = .returned s2 ∧ Below w.heap.size w w' := by
 subst hs1 hs2
 go_enter Star.func49, Star.ntmps49
 go_wp2
 go_ret
 exact ⟨rfl, (Below.refl _ _).alloc (Nat.le_refl _) _⟩
theorem right17_any (A : Option Addr) (n c : Nat) (B : Option Addr) (m d : Nat) (w : World) :
 Calls Star.prog 26 #[.agg #[.slice A n c, .slice B m d]] w fun e w' => e = .returned (.bool (decide (n ≤ 1000) && decide (m ≤ 1000))) ∧ Below w.heap.size w w' := by
 have e1 : decide ((n : Int) ≤ 1000) = decide (n ≤ 1000) := by simp; omega
 have e2 : decide ((m : Int) ≤ 1000) = decide (m ≤ 1000) := by simp; omega
 rw [← e1, ← e2]
 clear e1 e2
 go_enter Star.func26, Star.ntmps26
 cases h1 : decide ((n : Int) ≤ 1000) <;> (go_wp2; go_ret; exact ⟨rfl, (Below.refl _ _).alloc (Nat.le_refl _) _⟩)
theorem run_insert_new {P : Program} {w : World} {T K E b : Nat} {k : IntKind} (hT : P.underlying T = some (.map K E)) (hK : P.underlying K = some (.int k)) {es : Array MapEntry} {clock : Nat} {key : Int} (v : Value)
 (hb : w.heap[b]? = some (.map es clock)) (hnew : Instr.findNow (.int k) (.int k key) es.toList 0 = some none) :
 (Instr.mapUpdate T (.map (some b)) (.int k key) v).run P w = .ok () { w with heap := w.heap.setIfInBounds b (.map (es.push { key := .int k key, val := v, born := clock }) (clock + 1)) } := by
 have h1 := run_checkKey (w := w) hK (k := .int k key) (by simp [IsKey]) false 9999
 rw [show 9999 + 1 = 10000 from rfl] at h1
 have h2 := run_findKey (w := w) hK hnew
 have h3 := run_setObj_map (P := P) (.map (es.push { key := .int k key, val := v, born := clock }) (clock + 1)) hb
 simp [Instr.mapUpdate, run_underlying hT, Go.MapKept.run_getObj_map hb, h1, h2, h3, Result.andThen]
theorem wpList_insert_new {P : Program} {w : World} {ops : Array Oper} {rest : List Oper} {o : Oper} {a : Act} {Q : Exit → Act → World → Prop} (hgd : o.guard = none) (m k x : Operand) (T : TypeId) (ho : o.op = .insert T m k x)
 {K E : TypeId} {kd : IntKind} (hT : P.underlying T = some (.map K E)) (hK : P.underlying K = some (.int kd)) (b : Nat) (es : Array MapEntry) (clock : Nat) (key : Int) (v : Value) (hm : a.eval m = .map (some b)) (hk : a.eval k = .int kd key) (hx : a.eval x = v)
 (hb : w.heap[b]? = some (.map es clock)) (hnew : Instr.findNow (.int kd) (.int kd key) es.toList 0 = some none) {B : Nat} (hB : B ≤ b)
 (h : ∀ w', Below B w w' → w'.heap[b]? = some (.map (es.push { key := .int kd key, val := v, born := clock }) (clock + 1)) → wpList P ops Q rest (a.put o.dst undef) w') : wpList P ops Q (o :: rest) a w := by
 refine wpList_plain hgd fun J hJ => ?_
 have hrun := run_insert_new (v := v) hT hK hb hnew
 have hlt : b < w.heap.size := (Array.getElem?_eq_some_iff.1 hb).1
 unfold Oper.wp
 simp [execOp, ho, hm, hk, hx, hrun, Result.andThen]
 refine hJ _ _ (h _ ⟨rfl, rfl, rfl, by simp, fun n hn => ?_⟩ ?_)
 · simp [Array.getElem?_setIfInBounds, show ¬ b = n by omega]
 · simp [Array.getElem?_setIfInBounds, hlt]
theorem run_lookup_ok {P : Program} {w : World} {T K E b : Nat} {k : IntKind} (hT : P.underlying T = some (.map K E)) (hK : P.underlying K = some (.int k)) {es : Array MapEntry} {clock : Nat} {key : Int} {i : Nat} {v : Value}
 (hb : w.heap[b]? = some (.map es clock)) (hf : Instr.findNow (.int k) (.int k key) es.toList 0 = some (some (i, v))) :
 (Instr.lookup T (.map (some b)) (.int k key) true).run P w = .ok (.tuple #[v, .bool true]) w := by
 have h1 := run_checkKey (w := w) hK (k := .int k key) (by simp [IsKey]) es.isEmpty 9999
 rw [show 9999 + 1 = 10000 from rfl] at h1
 have h2 := run_findKey (w := w) hK hf
 simp [Instr.lookup, run_underlying hT, Go.MapKept.run_getObj_map hb, h1, h2, Result.andThen]
def ratesE : Array MapEntry := #[{ key := .int .i64 128, val := .int .i64 168, born := 0 }, { key := .int .i64 256, val := .int .i64 136, born := 1 }]
theorem rates_any (w : World) : Calls Star.prog 76 #[] w fun e w' => ∃ g, e = .returned (.map (some g)) ∧ w.heap.size ≤ g ∧ w'.heap[g]? = some (.map ratesE 2) ∧ Below w.heap.size w w' := by
 have hmm := @run_makeMap Star.prog
 have hb0 : (w.alloc (.map #[] 0)).heap[w.heap.size]? = some (.map #[] 0) := heap_alloc_new _ _
 have hB0 := (Below.refl w.heap.size w).alloc (Nat.le_refl _) (.map #[] 0)
 go_enter Star.func76, Star.ntmps76
 go_wp2_with (first
  | (refine wpList_insert_new rfl (.tmp 1) (.const (.int .i64 128)) (.const (.int .i64 168)) 118 rfl (kd := .i64) Star.underlying118 Star.underlying3 w.heap.size #[] 0 128 _ rfl rfl rfl hb0 (by rfl) (Nat.le_refl _) ?_
     intro w1 hb1 hm1
     replace hb1 := hB0.trans hb1)
  | (refine wpList_insert_new rfl (.tmp 1) (.const (.int .i64 256)) (.const (.int .i64 136)) 118 rfl (kd := .i64) Star.underlying118 Star.underlying3 w.heap.size _ _ 256 _ rfl rfl rfl hm1 (by rfl) (Nat.le_refl _) ?_
     intro w2 hb2 hm2
     replace hb2 := hb1.trans hb2)
  | fail)
 go_ret
 exact ⟨_, rfl, Nat.le_refl _, hm2, hb2⟩
def KeepsTape {α : Type} (P : Program) (s : Sem α) : Prop := ∀ w v w', s.run P w = .ok v w' → w'.tape = w.tape
theorem keeps_bind {α β : Type} {P : Program} {s : Sem α} {f : α → Sem β} (h1 : KeepsTape P s) (h2 : ∀ a, KeepsTape P (f a)) : KeepsTape P (s >>= f) := fun w v w' h => by
 rw [Sem.run_bind] at h
 cases hs : s.run P w with
 | ok a w1 => rw [hs] at h; exact (h2 a w1 v w' h).trans (h1 w a w1 hs)
 | halt x w1 => rw [hs] at h; cases h
theorem keeps_pure {α : Type} {P : Program} (x : α) : KeepsTape P (pure x : Sem α) := fun w v w' h => by cases h; rfl
theorem keeps_halt {α : Type} {P : Program} (x : Halt) : KeepsTape P (.halt x : Sem α) := fun w v w' h => by cases h
theorem keeps_getObj {P : Program} (r : Nat) : KeepsTape P (getObj r) := fun w v w' h => by
 unfold getObj at h
 rw [Sem.run] at h
 split at h
 · cases h
 · cases h; rfl
 · cases h
theorem keeps_setObj {P : Program} (r : Nat) (o : Obj) : KeepsTape P (setObj r o) := fun w v w' h => by
 unfold setObj at h
 rw [Sem.run] at h
 split at h
 · cases h
 · cases h; rfl
 · cases h
theorem keeps_choose {P : Program} (q : Question) : KeepsTape P (choose q) := fun w v w' h => by
 unfold choose at h
 rw [Sem.run] at h
 split at h <;> (cases h; rfl)
theorem next_keeps {P : Program} (r : Nat) (ty : TypeId) : KeepsTape P (Instr.next (.pointer (some ⟨r, 0, none⟩)) false ty) := by
 unfold Instr.next
 refine keeps_bind (keeps_getObj r) fun o => ?_
 split
 · rename_i hb; cases hb
 · exact keeps_pure _
 · refine keeps_bind (keeps_getObj _) fun o2 => ?_
   split
   · dsimp only
     split
     · exact keeps_bind (keeps_halt _) fun _ => by
        refine keeps_bind (keeps_choose _) fun n => ?_
        split
        · exact keeps_bind (keeps_setObj _ _) fun _ => keeps_pure _
        · exact keeps_pure _
        · exact keeps_halt _
     · refine keeps_bind (keeps_choose _) fun n => ?_
       split
       · exact keeps_bind (keeps_setObj _ _) fun _ => keeps_pure _
       · exact keeps_pure _
       · exact keeps_halt _
   · exact keeps_halt _
 · exact keeps_halt _
theorem below_alike {w1 W0 : World} (h : w1.Alike W0) (ht : w1.tape = W0.tape) {n : Nat} : Below n W0 w1 := ⟨h.2.1, ht, h.2.2, by rw [h.1]; exact Nat.le_refl _, fun k _ => by rw [h.1]⟩
set_option maxRecDepth 20000 in
theorem isRate_any (r : Int) (w : World) : Calls Star.prog 112 #[.int .i64 r] w fun e w' => e = .returned (.bool (ratesE.toList.any fun x => valOf x.val == r)) ∧ Below w.heap.size w w' := by
 have HR := Lib.hid (fun W => rates_any W)
 have hst : Stamped ratesE 2 := ⟨by decide, by decide, by simp [ratesE]⟩
 have hv : ∀ x ∈ ratesE.toList, ∃ v, x.val = .int .i64 v := by intro x hx; simp [ratesE] at hx; rcases hx with rfl | rfl <;> exact ⟨_, rfl⟩
 generalize ratesE = es at *
 go_enter Star.func112, Star.ntmps112
 go_wp2_with (go_at_call 76; refine (HR.out _).mono ?_; rintro e W0 ⟨g, rfl, hgs, hb, hB⟩; have hrg := run_range_map (P := Star.prog) W0 118 3 3 g es 2 Star.underlying118 hb)
 go_loopw [] (fun w' => ∃ (w1 : World) (seen : Array Nat), w1.Alike W0 ∧ w1.tape = W0.tape ∧ w' = w1.alloc (.mapIter (some g) 2 seen 2) ∧ ∀ x ∈ es.toList, seen.contains x.born = true → ¬ valOf x.val = r) (fun w' => (leftOf es (w'.iterSeen W0.heap.size)).size)
 case atStart => exact ⟨W0, #[], ⟨rfl, rfl, rfl⟩, rfl, rfl, fun x _ h => by simp at h⟩
 case round =>
  obtain ⟨w1, seen, hal, htp, rfl, hno⟩ := hrel
  have hsz : w1.heap.size = W0.heap.size := by rw [hal.1]
  have hb1 : w1.heap[g]? = some (.map es 2) := by rw [hal.1]; exact hb
  have law := run_next_map (P := Star.prog) w1 0 g 2 2 seen es 2 hb1 hst.1 (Nat.le_refl _)
  rw [hsz] at law
  rcases law with ⟨h0, hrun⟩ | ⟨e, he, w2, hal2, hrun⟩
  · have hnx : ∀ ty, (Instr.next (.pointer (some ⟨W0.heap.size, 0, none⟩)) false ty).run Star.prog (w1.alloc (.mapIter (some g) 2 seen 2)) = _ := fun _ => hrun
    go_wp2
    go_ret
    have hf : (es.toList.any fun x => valOf x.val == r) = false := by
     rw [List.any_eq_false]
     intro x hx
     have := hno x hx (all_seen es seen h0 x hx)
     simpa using this
    rw [hf]
    exact ⟨rfl, hB.trans ((below_alike hal htp).alloc (by rw [hsz]; exact hB.size) _)⟩
  · obtain ⟨v, hval⟩ := hv e (mem_left he).1
    rw [hval] at hrun
    have hnx : ∀ ty, (Instr.next (.pointer (some ⟨W0.heap.size, 0, none⟩)) false ty).run Star.prog (w1.alloc (.mapIter (some g) 2 seen 2)) = _ := fun _ => hrun
    have hsz2 : w2.heap.size = W0.heap.size := by rw [hal2.1, hal.1]
    have hb2 : w2.heap[g]? = some (.map es 2) := by rw [hal2.1]; exact hb1
    have hen := run_entry_map (P := Star.prog) w2 g 2 seen es 2 e hb2 (mem_left he).1 hst.2.1
    rw [hsz2, hval] at hen
    have htp3 : w2.tape = W0.tape := (next_keeps W0.heap.size 0 _ _ _ hrun).trans htp
    have hal3 : w2.Alike W0 := ⟨hal2.1.trans hal.1, hal2.2.1.trans hal.2.1, hal2.2.2.trans hal.2.2⟩
    cases hvr : v == r with
    | true =>
      go_wp2
      go_ret
      have ht : (es.toList.any fun x => valOf x.val == r) = true := List.any_eq_true.2 ⟨e, (mem_left he).1, by rw [hval]; exact hvr⟩
      rw [ht]
      exact ⟨rfl, hB.trans ((below_alike hal3 htp3).alloc (by rw [hsz2]; exact hB.size) _)⟩
    | false =>
      go_wp2
      go_roundw
      case rel =>
       refine ⟨w2, seen.push e.born, hal3, htp3, rfl, fun x hx hc => ?_⟩
       rw [contains_push] at hc
       rcases Bool.or_eq_true _ _ ▸ hc with h1 | h1
       · exact hno x hx h1
       · have : x = e := born_inj hst.2.1 hx (mem_left he).1 (beq_iff_eq.1 h1)
         subst this
         rw [hval]
         exact fun hh => by simp [valOf] at hh; subst hh; simp at hvr
      case measure =>
       rw [← hsz2, World.iterSeen_alloc, hsz2, ← hsz, World.iterSeen_alloc]
       exact left_shrinks es seen e he
end
section
open Go.RowKit Go.MapKept Rw
set_option maxRecDepth 20000
structure NmAt (W : World) (n : Nat) (s1 s2 : Value) : Prop where
 hold : Hold W n 2 #[s1, s2]
theorem NmAt.call {W W' : World} {n : Nat} {s1 s2 : Value} (h : NmAt W n s1 s2) (hb : Below W.heap.size W W') : NmAt W' n s1 s2 := ⟨h.hold.call hb⟩
theorem NmAt.c0 {W : World} {n : Nat} {s1 s2 : Value} (h : NmAt W n s1 s2) : W.cell? ⟨n, 0, none⟩ = some s1 := h.hold.cell rfl
theorem NmAt.c1 {W : World} {n : Nat} {s1 s2 : Value} (h : NmAt W n s1 s2) : W.cell? ⟨n, 1, none⟩ = some s2 := h.hold.cell rfl
set_option maxRecDepth 20000 in
theorem alike2_any (ga gb : Nat) (A1 : Option Addr) (n1 c1 : Nat) (A2 : Option Addr) (n2 c2 : Nat) (B1 : Option Addr) (m1 d1 : Nat) (B2 : Option Addr) (m2 d2 : Nat) (b : Bool) (w : World)
 (hA : NmAt w ga (.slice A1 n1 c1) (.slice A2 n2 c2)) (hB : NmAt w gb (.slice B1 m1 d1) (.slice B2 m2 d2))
 (hE : ∀ W, Below w.heap.size w W → Calls Star.prog 47 #[.slice A1 n1 c1, .slice B1 m1 d1] W fun e w' => e = .returned (.bool b) ∧ W = w') :
 Calls Star.prog 46 #[.func (.func 48) #[] #[], .pointer (some ⟨ga, 0, none⟩), .pointer (some ⟨gb, 0, none⟩)] w fun e w' => e = .returned (.bool b) ∧ Below w.heap.size w w' := by
 have HT := Lib.hid (fun (A1 : Option Addr) n1 c1 A2 n2 c2 W => texts_any (.slice A1 n1 c1) (.slice A2 n2 c2) A1 n1 c1 A2 n2 c2 rfl rfl W)
 have HA := Lib.hid (hA.call ((Below.refl _ _).drewN 1))
 have HB := Lib.hid (hB.call ((Below.refl _ _).drewN 1))
 have HE := Lib.hid hE
 have q1 := hA.c0
 have q2 := hA.c1
 have q3 := hB.c0
 have q4 := hB.c1
 have HW := Lib.hid ((Below.refl w.heap.size w).drewN 1)
 clear hA hB hE
 go_enter Star.func46, Star.ntmps46
 go_wp2_with fail
 go_region_law (first
  | (go_simp
     go_at_call 48
     (with_reducible refine (HT.out A1 n1 c1 A2 n2 c2 _).mono ?_)
     rintro e u1 ⟨rfl, hb1⟩
     try clear q1 q2 q3 q4
     first
      | (have HA2 := Lib.hid (HA1.out.call hb1); have HB2 := Lib.hid (HB1.out.call hb1); have HW2 := Lib.hid (HW1.out.trans (hb1.mono HW1.out.size)); clear hb1)
      | (have HA1 := Lib.hid (HA.out.call hb1); have HB1 := Lib.hid (HB.out.call hb1); have HW1 := Lib.hid (HW.out.trans (hb1.mono HW.out.size)); have q1 := HA1.out.c0; have q2 := HA1.out.c1; have q3 := HB1.out.c0; have q4 := HB1.out.c1; clear hb1))
  | (go_simp
     go_at_call 48
     (with_reducible refine (HT.out B1 m1 d1 B2 m2 d2 _).mono ?_)
     rintro e u1 ⟨rfl, hb1⟩
     try clear q1 q2 q3 q4
     first
      | (have HA2 := Lib.hid (HA1.out.call hb1); have HB2 := Lib.hid (HB1.out.call hb1); have HW2 := Lib.hid (HW1.out.trans (hb1.mono HW1.out.size)); clear hb1)
      | (have HA1 := Lib.hid (HA.out.call hb1); have HB1 := Lib.hid (HB.out.call hb1); have HW1 := Lib.hid (HW.out.trans (hb1.mono HW.out.size)); have q1 := HA1.out.c0; have q2 := HA1.out.c1; have q3 := HB1.out.c0; have q4 := HB1.out.c1; clear hb1))
  | (go_simp
     go_at_call 47
     (with_reducible refine (HE.out _ HW2.out).mono ?_)
     rintro e u3 ⟨rfl, rfl⟩))
 all_goals
  go_wp2_with fail
  go_ret
  exact ⟨rfl, HW2.out⟩
set_option maxRecDepth 20000 in
theorem alike3_any (ga gb : Nat) (A1 : Option Addr) (n1 c1 : Nat) (A2 : Option Addr) (n2 c2 : Nat) (B1 : Option Addr) (m1 d1 : Nat) (B2 : Option Addr) (m2 d2 : Nat) (b : Bool) (w : World)
 (hA : NmAt w ga (.slice A1 n1 c1) (.slice A2 n2 c2)) (hB : NmAt w gb (.slice B1 m1 d1) (.slice B2 m2 d2))
 (hE : ∀ W, Below w.heap.size w W → Calls Star.prog 47 #[.slice A2 n2 c2, .slice B2 m2 d2] W fun e w' => e = .returned (.bool b) ∧ W = w') :
 Calls Star.prog 46 #[.func (.func 49) #[] #[], .pointer (some ⟨ga, 0, none⟩), .pointer (some ⟨gb, 0, none⟩)] w fun e w' => e = .returned (.bool b) ∧ Below w.heap.size w w' := by
 have HT := Lib.hid (fun (A1 : Option Addr) n1 c1 A2 n2 c2 W => textn_any (.slice A1 n1 c1) (.slice A2 n2 c2) A1 n1 c1 A2 n2 c2 rfl rfl W)
 have HA := Lib.hid (hA.call ((Below.refl _ _).drewN 1))
 have HB := Lib.hid (hB.call ((Below.refl _ _).drewN 1))
 have HE := Lib.hid hE
 have q1 := hA.c0
 have q2 := hA.c1
 have q3 := hB.c0
 have q4 := hB.c1
 have HW := Lib.hid ((Below.refl w.heap.size w).drewN 1)
 clear hA hB hE
 go_enter Star.func46, Star.ntmps46
 go_wp2_with fail
 go_region_law (first
  | (go_simp
     go_at_call 49
     (with_reducible refine (HT.out A1 n1 c1 A2 n2 c2 _).mono ?_)
     rintro e u1 ⟨rfl, hb1⟩
     try clear q1 q2 q3 q4
     first
      | (have HA2 := Lib.hid (HA1.out.call hb1); have HB2 := Lib.hid (HB1.out.call hb1); have HW2 := Lib.hid (HW1.out.trans (hb1.mono HW1.out.size)); clear hb1)
      | (have HA1 := Lib.hid (HA.out.call hb1); have HB1 := Lib.hid (HB.out.call hb1); have HW1 := Lib.hid (HW.out.trans (hb1.mono HW.out.size)); have q1 := HA1.out.c0; have q2 := HA1.out.c1; have q3 := HB1.out.c0; have q4 := HB1.out.c1; clear hb1))
  | (go_simp
     go_at_call 49
     (with_reducible refine (HT.out B1 m1 d1 B2 m2 d2 _).mono ?_)
     rintro e u1 ⟨rfl, hb1⟩
     try clear q1 q2 q3 q4
     first
      | (have HA2 := Lib.hid (HA1.out.call hb1); have HB2 := Lib.hid (HB1.out.call hb1); have HW2 := Lib.hid (HW1.out.trans (hb1.mono HW1.out.size)); clear hb1)
      | (have HA1 := Lib.hid (HA.out.call hb1); have HB1 := Lib.hid (HB.out.call hb1); have HW1 := Lib.hid (HW.out.trans (hb1.mono HW.out.size)); have q1 := HA1.out.c0; have q2 := HA1.out.c1; have q3 := HB1.out.c0; have q4 := HB1.out.c1; clear hb1))
  | (go_simp
     go_at_call 47
     (with_reducible refine (HE.out _ HW2.out).mono ?_)
     rintro e u3 ⟨rfl, rfl⟩))
 all_goals
  go_wp2_with fail
  go_ret
  exact ⟨rfl, HW2.out⟩
end
section
open Go.RowKit Go.MapKept Rw
set_option maxRecDepth 20000
def nmE (xs ys : List Nat) : Bool := decide (xs = []) && decide (ys = [])
def nmR (xs ys : List Nat) : Bool := decide (xs.length ≤ 1000) && decide (ys.length ≤ 1000)
set_option maxRecDepth 20000 in
theorem same17_any (A1 : Option Addr) (c1 : Nat) (xs1 : List Nat) (A2 : Option Addr) (c2 : Nat) (xs2 : List Nat) (B1 : Option Addr) (d1 : Nat) (ys1 : List Nat) (B2 : Option Addr) (d2 : Nat) (ys2 : List Nat)
 (hx1 : AllLt 256 xs1) (hx2 : AllLt 256 xs2) (hy1 : AllLt 256 ys1) (hy2 : AllLt 256 ys2) (w : World) (h1 : Words .u8 w A1 xs1) (h2 : Words .u8 w A2 xs2) (h3 : Words .u8 w B1 ys1) (h4 : Words .u8 w B2 ys2) :
 Calls Star.prog 27 #[.agg #[.slice A1 xs1.length c1, .slice A2 xs2.length c2], .agg #[.slice B1 ys1.length d1, .slice B2 ys2.length d2]] w
  fun e w' => e = .returned (.bool (decide (xs1 = ys1) && decide (xs2 = ys2))) ∧ Below w.heap.size w w' := by
 have E1 : Hid (∀ W, Below w.heap.size w W → Calls Star.prog 47 #[.slice A1 xs1.length c1, .slice B1 ys1.length d1] W fun e w' => e = .returned (.bool (decide (xs1 = ys1))) ∧ W = w') := fun W hb =>
  equal_all A1 c1 xs1 B1 d1 ys1 hx1 hy1 W (h1.below hb (Nat.le_refl _)) (h3.below hb (Nat.le_refl _))
 have E2 : Hid (∀ W, Below w.heap.size w W → Calls Star.prog 47 #[.slice A2 xs2.length c2, .slice B2 ys2.length d2] W fun e w' => e = .returned (.bool (decide (xs2 = ys2))) ∧ W = w') := fun W hb =>
  equal_all A2 c2 xs2 B2 d2 ys2 hx2 hy2 W (h2.below hb (Nat.le_refl _)) (h4.below hb (Nat.le_refl _))
 generalize decide (xs1 = ys1) = b1 at *
 generalize decide (xs2 = ys2) = b2 at *
 generalize xs1.length = n1 at *
 generalize xs2.length = n2 at *
 generalize ys1.length = m1 at *
 generalize ys2.length = m2 at *
 clear h1 h2 h3 h4 hx1 hx2 hy1 hy2
 have HB0 := Lib.hid (((Below.refl w.heap.size w).alloc (Nat.le_refl _) (.cells #[.slice A1 n1 c1, .slice A2 n2 c2] 29)).alloc (by simp) (.cells #[.slice B1 m1 d1, .slice B2 m2 d2] 29))
 have HA := Lib.hid (NmAt.mk ((Hold.new w #[.slice A1 n1 c1, .slice A2 n2 c2] 29 2 rfl).past (.cells #[.slice B1 m1 d1, .slice B2 m2 d2] 29)))
 have HB := Lib.hid (NmAt.mk (Hold.new1 w (.cells #[.slice A1 n1 c1, .slice A2 n2 c2] 29) #[.slice B1 m1 d1, .slice B2 m2 d2] 29 2 rfl))
 go_enter Star.func27, Star.ntmps27
 cases b1 with
 | false =>
   go_wp2_with (first
    | (go_at_call 46
       (with_reducible refine (alike2_any _ _ A1 n1 c1 A2 n2 c2 B1 m1 d1 B2 m2 d2 false _ HA.out HB.out (fun W hb => E1.out W (HB0.out.trans (hb.mono (by simp; omega))))).mono ?_)
       rintro e u1 ⟨rfl, hb1⟩
       have HB1 := Lib.hid (HB0.out.trans (hb1.mono (by simp; omega)))))
   go_ret
   exact ⟨rfl, HB1.out⟩
 | true =>
   go_wp2_with (first
    | (go_at_call 46
       (with_reducible refine (alike2_any _ _ A1 n1 c1 A2 n2 c2 B1 m1 d1 B2 m2 d2 true _ HA.out HB.out (fun W hb => E1.out W (HB0.out.trans (hb.mono (by simp; omega))))).mono ?_)
       rintro e u1 ⟨rfl, hb1⟩
       have HA1 := Lib.hid (HA.out.call hb1)
       have HB1 := Lib.hid (HB.out.call hb1)
       have HC1 := Lib.hid (HB0.out.trans (hb1.mono (by simp; omega)))
       clear hb1)
    | (go_at_call 46
       (with_reducible refine (alike3_any _ _ A1 n1 c1 A2 n2 c2 B1 m1 d1 B2 m2 d2 b2 _ HA1.out HB1.out (fun W hb => E2.out W (HC1.out.trans (hb.mono HC1.out.size)))).mono ?_)
       rintro e u2 ⟨rfl, hb2⟩
       have HC2 := Lib.hid (HC1.out.trans (hb2.mono HC1.out.size))
       clear hb2))
   go_ret
   exact ⟨rfl, HC2.out⟩
theorem isEmpty_any (A1 : Option Addr) (c1 : Nat) (xs1 : List Nat) (A2 : Option Addr) (c2 : Nat) (xs2 : List Nat) (hx1 : AllLt 256 xs1) (hx2 : AllLt 256 xs2) (w : World) (h1 : Words .u8 w A1 xs1) (h2 : Words .u8 w A2 xs2) :
 Calls Star.prog 111 #[.agg #[.slice A1 xs1.length c1, .slice A2 xs2.length c2]] w fun e w' => e = .returned (.bool (nmE xs1 xs2)) ∧ Below w.heap.size w w' := by
 have hB := (Below.refl w.heap.size w).alloc (Nat.le_refl _) (.cells #[.slice A1 xs1.length c1, .slice A2 xs2.length c2] 29)
 have S1 := Lib.hid (same17_any A1 c1 xs1 A2 c2 xs2 none 0 [] none 0 [] hx1 hx2 (by intro x h; simp at h) (by intro x h; simp at h) _ (h1.below hB (Nat.le_refl _)) (h2.below hB (Nat.le_refl _)) (fun i hi => by simp at hi) (fun i hi => by simp at hi))
 rw [show (decide (xs1 = []) && decide (xs2 = [])) = nmE xs1 xs2 from rfl, List.length_nil] at S1
 have HB := Lib.hid hB
 generalize nmE xs1 xs2 = b at *
 generalize xs1.length = n1 at *
 generalize xs2.length = n2 at *
 clear h1 h2 hx1 hx2 hB
 go_enter Star.func111, Star.ntmps111
 go_wp2_with (first
  | (go_at_call 27
     (with_reducible refine (S1.out).mono ?_)
     rintro e u1 ⟨rfl, hb1⟩
     have HB1 := Lib.hid (HB.out.trans (hb1.mono HB.out.size))))
 go_ret
 exact ⟨rfl, HB1.out⟩
theorem suffix_any (A1 : Option Addr) (c1 : Nat) (xs1 : List Nat) (A2 : Option Addr) (c2 : Nat) (xs2 : List Nat) (hx1 : AllLt 256 xs1) (hx2 : AllLt 256 xs2) (w : World) (h1 : Words .u8 w A1 xs1) (h2 : Words .u8 w A2 xs2) :
 Calls Star.prog 77 #[.agg #[.slice A1 xs1.length c1, .slice A2 xs2.length c2]] w fun e w' => e = .returned (.int .i64 (if nmE xs1 xs2 then 31 else 4)) ∧ Below w.heap.size w w' := by
 have hB := (Below.refl w.heap.size w).alloc (Nat.le_refl _) (.cells #[.slice A1 xs1.length c1, .slice A2 xs2.length c2] 29)
 have S1 := Lib.hid (isEmpty_any A1 c1 xs1 A2 c2 xs2 hx1 hx2 _ (h1.below hB (Nat.le_refl _)) (h2.below hB (Nat.le_refl _)))
 have HB := Lib.hid hB
 generalize nmE xs1 xs2 = b at *
 generalize xs1.length = n1 at *
 generalize xs2.length = n2 at *
 clear h1 h2 hx1 hx2 hB
 go_enter Star.func77, Star.ntmps77
 cases b <;>
  (go_wp2_with (first
    | (go_at_call 111
       (with_reducible refine (S1.out).mono ?_)
       rintro e u1 ⟨rfl, hb1⟩
       have HB1 := Lib.hid (HB.out.trans (hb1.mono HB.out.size))))
   go_ret
   exact ⟨rfl, HB1.out⟩)
theorem refRight17_any (A : Option Addr) (n c : Nat) (B : Option Addr) (m d : Nat) (w : World) :
 Calls Star.prog 10 #[.agg #[.slice A n c, .slice B m d]] w fun e w' => e = .returned (.bool (decide (n ≤ 1000) && decide (m ≤ 1000))) ∧ Below w.heap.size w w' := by
 have e1 : decide ((n : Int) ≤ 1000) = decide (n ≤ 1000) := by simp; omega
 have e2 : decide ((m : Int) ≤ 1000) = decide (m ≤ 1000) := by simp; omega
 rw [← e1, ← e2]
 clear e1 e2
 go_enter Star.func10, Star.ntmps10
 cases h1 : decide ((n : Int) ≤ 1000) <;> (go_wp2; go_ret; exact ⟨rfl, (Below.refl _ _).alloc (Nat.le_refl _) _⟩)
theorem refEmpty_any (A : Option Addr) (n c : Nat) (B : Option Addr) (m d : Nat) (hn : n ≤ 1000000) (hm : m ≤ 1000000) (w : World) :
 Calls Star.prog 45 #[.agg #[.slice A n c, .slice B m d]] w fun e w' => e = .returned (.bool (decide (n = 0) && decide (m = 0))) ∧ Below w.heap.size w w' := by
 have e1 : ((n : Int) + (m : Int) == 0) = (decide (n = 0) && decide (m = 0)) := by
  rw [← Bool.decide_and, Bool.eq_iff_iff, beq_iff_eq, decide_eq_true_iff]; omega
 rw [← e1]
 clear e1
 go_enter Star.func45, Star.ntmps45
 go_wp2
 go_ret
 exact ⟨rfl, (Below.refl _ _).alloc (Nat.le_refl _) _⟩
theorem nmE_len (xs ys : List Nat) : nmE xs ys = (decide (xs.length = 0) && decide (ys.length = 0)) := by
 unfold nmE; simp [List.length_eq_zero_iff]
end
end Go.Proofs.YtenffmfklmialaaGreatDoor.Cd
