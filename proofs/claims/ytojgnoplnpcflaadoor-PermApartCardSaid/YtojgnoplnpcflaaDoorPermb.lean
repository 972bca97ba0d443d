/- Layer 13: the program's way back: rows. -/
import Derived.Test.YtojgnoplnpcflaaDoorPerma
namespace Go.Proofs.YtojgnoplnpcflaaDoor.L64
open Go.RowKit Rw
set_option linter.unusedVariables false
set_option linter.unusedSimpArgs false
/-- A state, cut from a place on: as one step. -/
def cutArr (ty : TypeId) (x : Value) (l h m : Option Value) : Sem Value := Instr.sliceAt ty x l h m
theorem cut25_hide (x : Value) (l h m : Option Value) : Instr.sliceAt 24 x l h m = cutArr 24 x l h m := rfl
theorem cut25 (b m : Nat) (i : Int) (hi : i = (m : Nat)) (h : m < 25) (w : World) : (cutArr 24 (.pointer (some ⟨b, 0, none⟩)) (some (.int .i64 i)) none none).run Tryd.prog w = .ok (.slice (some ⟨b, m, none⟩) (25 - m) (25 - m)) w := by
  subst hi
  have h1 : (0 : Int) ≤ (m : Int) := by omega
  have h2 : (m : Int) ≤ 25 := by omega
  have h3 : (sizeOf 22).run Tryd.prog w = .ok 1 w := by kernel_rfl
  unfold cutArr Instr.sliceAt
  rw [Sem.run_bind, run_underlying Tryd.underlying24 w]
  simp [Result.andThen, Sem.run_bind, Instr.sureAddr, Instr.sliceBounds, Instr.sliceBound, asIntOf, h1, h2, h3, show ¬ 25 = m by omega, show m ≤ 25 by omega, addr_add]
/-- copy of a row into a row. -/
def tabPut (F G : Nat → Nat) (o M i : Nat) : Nat := if o ≤ i ∧ i < o + M then G (i - o) else F i
theorem splice_tab (N M o : Nat) (F G : Nat → Nat) (h : o + M ≤ N) : ((uTab N F).toList.take o ++ ((uTab M G).toList ++ (uTab N F).toList.drop (o + (uTab M G).toList.length))).toArray = uTab N (tabPut F G o M) := by
  have hl : (uTab M G).toList.length = M := by rw [Array.length_toList, uTab_size]
  have hn : (uTab N F).toList.length = N := by rw [Array.length_toList, uTab_size]
  have at1 : ∀ (K : Nat) (H : Nat → Nat) (i : Nat), i < K → (uTab K H).toList[i]? = some (.int .u64 (H i : Nat)) := fun K H i hi => by rw [Array.getElem?_toList, uTab_at _ _ _ hi]
  rw [hl]
  apply Array.ext_getElem?
  intro i
  rw [List.getElem?_toArray, List.getElem?_append, List.length_take, hn, Nat.min_eq_left (by omega), List.getElem?_append, hl]
  by_cases hi : i < N
  · rw [uTab_at _ _ _ hi]
    unfold tabPut
    by_cases h1 : i < o
    · rw [if_pos h1, List.getElem?_take, if_pos h1, at1 _ _ _ hi, if_neg (by omega)]
    · rw [if_neg h1]
      by_cases h2 : i - o < M
      · rw [if_pos h2, at1 _ _ _ h2, if_pos (by omega)]
      · rw [if_neg h2, List.getElem?_drop, show o + M + (i - o - M) = i by omega, at1 _ _ _ hi, if_neg (by omega)]
  · rw [Array.getElem?_eq_none (by rw [uTab_size]; omega), if_neg (by omega), if_neg (by omega), List.getElem?_drop, List.getElem?_eq_none (by rw [hn]; omega)]
theorem wpList_copy_tab {P : Program} {w : World} {ops : Array Oper} {rest : List Oper} {o : Oper} {a : Act} {Q : Exit → Act → World → Prop} (hgd : o.guard = none) (d s : Operand) (dT sT : TypeId)
    (ho : o.op = .call { callee := .builtin .copy, args := #[d, s], argTypes := #[dT, sT] }) (elem : TypeId) (hu : P.underlying dT = some (.slice elem)) (hsz : (P.info? elem).map (·.size) = some 1)
    (g b N K M off off2 dLen dCap sLen sCap : Nat) (hd : a.eval d = .slice (some ⟨g, off, none⟩) dLen dCap) (hs : a.eval s = .slice (some ⟨b, off2, none⟩) sLen sCap)
    (F S : Nat → Nat) (hF : Hold w g N (uTab N F)) (hS : Hold w b K (uTab K S)) (hM : M = Nat.min sLen dLen) (h1 : off + M ≤ N) (h2 : off2 + M ≤ K)
    (h : wpList P ops Q rest (a.put o.dst (goInt M)) (w.setRow g (uTab N (tabPut F (fun i => S (off2 + i)) off M)))) : wpList P ops Q (o :: rest) a w := by
  obtain ⟨t, hg, _⟩ := hF.heap
  have hl : (uTab M fun i => S (off2 + i)).toList.length = M := by rw [Array.length_toList, uTab_size]
  refine wpList_copy_own hgd d s dT sT ho elem hu hsz g off dLen dCap ⟨b, off2, none⟩ sLen sCap hd hs (uTab N F) t hg (uTab M fun i => S (off2 + i)).toList (by rw [hl]; exact hM) ?_ (by rw [hl, uTab_size]; exact h1) ?_ ?_
  · intro j v hj
    rw [Array.getElem?_toList] at hj
    have hj2 : j < M := by
      by_cases hj3 : j < M
      · exact hj3
      · rw [Array.getElem?_eq_none (by rw [uTab_size]; omega)] at hj; cases hj
    rw [uTab_at _ _ _ hj2] at hj
    rw [addr_add, hS.cell (uTab_at K S (off2 + j) (by omega))]
    exact hj
  · intro v hv
    have := (Array.all_eq_true'.1 (uTab_ones M fun i => S (off2 + i))) v (by simpa using hv)
    exact this
  · rw [splice_tab N M off F _ h1, hl]
    exact h
section
attribute [local go_sem ↓] cut25_hide
set_option maxRecDepth 100000 in
set_option maxHeartbeats 1000000 in
theorem row13_any (f : Nat → Nat) (hf : ∀ i, f i < 18446744073709551616) (y : Nat) (hy : y < 5) (w : World) : Calls Tryd.prog 55 #[.agg (uTab 25 f), .int .i64 (y : Nat)] w fun e w' => e = .returned (.agg (uTab 5 (rowN f y))) ∧ Below w.heap.size w w' := by
  go_enter Tryd.func55, Tryd.ntmps55
  go_wp2
  obtain ⟨W, hW⟩ : ∃ W, W = ((w.alloc (.cells (uTab 25 f) 24)).alloc (.cells (uTab 5 fun _ => 0) 41)).alloc (.cells (uTab 5 fun _ => 0) 41) := ⟨_, rfl⟩
  have HA : Hold W w.heap.size 25 (uTab 25 f) := by rw [hW]; exact ((Hold.new w _ _ 25 (uTab_size _ _)).past _).past _
  have HR : Hold W (w.heap.size + 1) 5 (uTab 5 fun _ => 0) := by rw [hW]; exact (Hold.new1 w _ _ _ 5 (uTab_size _ _)).past _
  have HC : Hold W (w.heap.size + 1 + 1) 5 (uTab 5 fun _ => 0) := by rw [hW]; exact Hold.new2 w _ _ _ _ 5 (uTab_size _ _)
  have HB : Below w.heap.size w W := by rw [hW]; exact ((Below.refl _ w).alloc (Nat.le_refl _) _).alloc (by simp) _ |>.alloc (by simp; omega) _
  rw [← hW]
  clear hW
  have w1 : IntKind.i64.wrap (5 * (y : Int)) = 5 * (y : Int) := by rw [IntKind.wrap_i64]; omega
  have q9 := fun W => cut25 w.heap.size (5 * y) (5 * (y : Int)) (by omega) (by omega) W
  have HA3 := HA.drew
  have HR3 := HR.drew
  have HC3 := HC.drew
  have HB3 := below_drew HB
  clear HA HR HC HB
  refine wp_region_still_tail 4 (by kernel_rfl) (by kernel_rfl) ?_
  change wpStill _ _ W.drew (fun a' => wpList _ _ _ _ a' W.drew) _ _
  generalize W.drew = W3 at *
  simp only [List.take_succ_cons, List.take_zero, List.drop_succ_cons, List.drop_zero]
  repeat still_step
  refine wpStill_nil ?_
  refine wpList_copy_tab rfl (.tmp 6) (.tmp 9) 47 47 rfl 22 Tryd.underlying47 (by kernel_rfl) (w.heap.size + 1 + 1) w.heap.size 5 25 5 0 (5 * y) 5 5 (25 - 5 * y) (25 - 5 * y) rfl rfl (fun _ => 0) f HC3 HA3 (Nat.min_eq_right (by omega)).symm (by omega) (by omega) ?_
  rw [show uTab 5 (tabPut (fun _ => 0) (fun i => f (5 * y + i)) 0 5) = uTab 5 (rowN f y) from uTab_congr fun i hi => by unfold tabPut rowN; rw [if_pos (by omega), Nat.sub_zero]]
  have HC4 := HC3.set (uTab 5 (rowN f y)) (uTab_size _ _)
  have HR4 := HR3.other (uTab 5 (rowN f y)) (m := w.heap.size + 1 + 1) (by omega)
  have HB4 := below_setRow HB3 (g := w.heap.size + 1 + 1) (by omega) (uTab 5 (rowN f y))
  clear HA3 HR3 HC3 HB3 q9
  generalize W3.setRow (w.heap.size + 1 + 1) (uTab 5 (rowN f y)) = W5 at *
  have q1 : (loadRow 41 (.pointer (some ⟨w.heap.size + 1 + 1, 0, none⟩))).run Tryd.prog W5 = .ok (.agg (uTab 5 (rowN f y))) W5 := HC4.load Tryd.underlying41 rfl (by kernel_rfl)
  have q2 := HR4.ok
  go_wp2
  refine row_ret (P := Tryd.prog) (n := w.heap.size + 1) (p := 4) (k := 5) (c := uTab 5 (rowN f y)) rfl rfl (HR4.set _ (uTab_size _ _)).ok (HR4.set _ (uTab_size _ _)).at' Tryd.underlying41 rfl (by kernel_rfl) rfl ⟨rfl, below_setRow HB4 (by omega) _⟩
end
end Go.Proofs.YtojgnoplnpcflaaDoor.L64
