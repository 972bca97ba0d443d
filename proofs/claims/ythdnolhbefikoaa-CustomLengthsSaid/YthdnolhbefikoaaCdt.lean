/- Layer 16: what is told again: numbers. -/
import Derived.Test.YthdnolhbefikoaaCdr
import Derived.Laws.CopyOwn
import Derived.Laws.BytesArg
import Derived.Lib.Bytes
namespace Go.Proofs.Ythdnolhbefikoaa.Cd
open Go.RowKit
set_option linter.unusedVariables false
set_option linter.unusedSimpArgs false
theorem noughts_length (k : Nat) : (noughts k).length = k := by simp [noughts]
theorem be_noughts (k : Nat) (ds : List Nat) : be (noughts k ++ ds) = be ds := by
  unfold be
  rw [List.foldl_append]
  have h : ∀ k, (noughts k).foldl (fun a b => a * 256 + b) 0 = 0 := by
    intro k
    induction k with
    | zero => rfl
    | succ k ih => rw [noughts_succ, List.foldl_append, ih]; rfl
  rw [h]
theorem cells_splice (ds : List Nat) (h : ds.length ≤ 16) : splice (cellsOf .u8 (noughts 16)) (16 - ds.length) (cellsOf .u8 ds) = cellsOf .u8 (noughts (16 - ds.length) ++ ds) := by
  unfold splice
  rw [cellsOf_append, cellsOf_length, show 16 - ds.length + ds.length = 16 by omega]
  have e1 : (cellsOf .u8 (noughts 16)).drop 16 = [] := List.drop_of_length_le (by rw [cellsOf_length, noughts_length]; omega)
  have e2 : (cellsOf .u8 (noughts 16)).take (16 - ds.length) = cellsOf .u8 (noughts (16 - ds.length)) := by
    unfold cellsOf noughts
    rw [← List.map_take, List.take_replicate, Nat.min_eq_left (by omega)]
  rw [e1, e2, List.append_nil]
theorem words_row {w : World} {g : Nat} {k : IntKind} {t : TypeId} {fr : Nat × Nat} {xs : List Nat} (h : w.heap[g]? = some (.cells (cellsOf k xs).toArray t fr)) : Words k w (some ⟨g, 0, none⟩) xs := fun i hi => by
  refine ⟨g, 0, rfl, ?_⟩
  rw [cell_of_row _ _ _ _ t fr h, Nat.zero_add, List.getElem?_toArray, cellsOf_at _ _ _ hi]
/-! ### Prefixes -/
def intsN (xs : List Nat) : List Int := xs.map fun (x : Nat) => (x : Int)
theorem intsN_getD (xs : List Nat) (i : Nat) : (intsN xs).getD i 0 = (xs.getD i 0 : Nat) := by
  unfold intsN
  rw [List.getD_eq_getElem?_getD, List.getElem?_map, List.getD_eq_getElem?_getD]
  cases xs[i]? <;> rfl
theorem byte_inj {a b : Nat} (ha : a < 256) (hb : b < 256) (h : UInt8.ofNat a = UInt8.ofNat b) : a = b := by
  have := congrArg UInt8.toNat h
  rw [UInt8.toNat_ofNat', UInt8.toNat_ofNat'] at this
  omega
theorem bytes_inj : ∀ {xs ys : List Nat}, AllLt 256 xs → AllLt 256 ys → Lib.bytesOf (intsN xs) = Lib.bytesOf (intsN ys) → xs = ys
  | [], [], _, _, _ => rfl
  | [], y :: ys, _, _, h => by simp [Lib.bytesOf, intsN] at h
  | x :: xs, [], _, _, h => by simp [Lib.bytesOf, intsN] at h
  | x :: xs, y :: ys, hx, hy, h => by
    simp only [Lib.bytesOf, intsN, List.map_cons, List.cons.injEq, Int.toNat_natCast] at h
    rw [byte_inj (hx x (by simp)) (hy y (by simp)) h.1, bytes_inj (xs := xs) (ys := ys) (fun z hz => hx z (by simp [hz])) (fun z hz => hy z (by simp [hz])) (by simp only [Lib.bytesOf, intsN]; exact h.2)]
theorem bytes_eq {xs ys : List Nat} (hx : AllLt 256 xs) (hy : AllLt 256 ys) : (Lib.bytesOf (intsN xs) == Lib.bytesOf (intsN ys)) = decide (xs = ys) := by
  by_cases h : xs = ys
  · subst h; simp
  · rw [decide_eq_false h, beq_eq_false_iff_ne]
    exact fun e => h (bytes_inj hx hy e)
theorem conv_words {w : World} {A : Option Addr} {xs : List Nat} (c : Nat) (hw : Words .u8 w A xs) (h0 : xs ≠ []) : (convert 22 9 (.slice A xs.length c)).run Try.prog w = .ok (.string (strOfNums (intsN xs))) w := by
  have hp : 0 < xs.length := List.length_pos_iff.2 h0
  obtain ⟨b, o, rfl, _⟩ := hw 0 hp
  refine run_convert_bytes_arg w 22 5 Try.underlying22 Try.underlying5 b o xs.length c (intsN xs) (by simp [intsN]) (fun i hi => ?_) 9 Try.underlying9
  obtain ⟨b', o', e, hc⟩ := hw i hi
  cases e
  rw [intsN_getD]; exact hc
set_option maxHeartbeats 1000000 in
theorem equal_any (A : Option Addr) (c : Nat) (xs : List Nat) (B : Option Addr) (d : Nat) (ys : List Nat) (hx : AllLt 256 xs) (hy : AllLt 256 ys) (hx0 : xs ≠ []) (hy0 : ys ≠ []) (w : World) (hw : Words .u8 w A xs) (hw2 : Words .u8 w B ys) :
    Calls Try.prog 25 #[.slice A xs.length c, .slice B ys.length d] w fun e w' => e = .returned (.bool (decide (xs = ys))) ∧ w = w' := by
  rw [← bytes_eq hx hy, ← Lib.strOfNums_toList, ← Lib.strOfNums_toList]
  have h1 := conv_words c hw hx0
  have h2 := conv_words d hw2 hy0
  clear hx hy hw hw2 hx0 hy0
  generalize strOfNums (intsN xs) = s1 at *
  generalize strOfNums (intsN ys) = s2 at *
  go_enter Try.func25, Try.ntmps25
  go_wp2
  go_ret
  exact ⟨rfl, rfl⟩
theorem cutK_any (k1 k2 : IntKind) (w : World) (A : Option Addr) (c : Nat) (xs : List Nat) (hw : Words .u8 w A xs) (hlc : xs.length ≤ c) (hcm : c ≤ maxLen) (l h : Nat) (hl : l ≤ h) (hh : h ≤ xs.length) :
    ∃ A', (cutAt 22 (.slice A xs.length c) (some (.int k1 (l : Nat))) (some (.int k2 (h : Nat))) none).run Try.prog w = .ok (.slice A' (h - l) (c - l)) w ∧ Words .u8 w A' ((xs.drop l).take (h - l)) := by
  unfold maxLen at hcm
  refine ⟨if c = l then A else A.map (·.add (l * 1)), ?_, ?_⟩
  · unfold cutAt Instr.sliceAt
    rw [Sem.run_bind, run_underlying Try.underlying22 w]
    have h1 : (0 : Int) ≤ (h : Int) := by omega
    have h2 : (h : Int) ≤ (c : Int) := by omega
    have h3 : (0 : Int) ≤ (l : Int) := by omega
    have h4 : (l : Int) ≤ (h : Int) := by omega
    simp [Result.andThen, Instr.slice, Sem.run_bind, run_underlying Try.underlying22 w, Instr.sliceBounds, Instr.sliceBound, asIntOf, show h ≤ c by omega, hl]
  · intro i hi
    have hi' : i < h - l := by simp at hi; omega
    obtain ⟨b, o, rfl, hc⟩ := hw (l + i) (by omega)
    rw [if_neg (by omega)]
    refine ⟨b, o + l, by simp [addr_add], ?_⟩
    rw [getD_take _ _ _ hi', getD_drop, Nat.add_assoc]
    exact hc
theorem getN_no {xs : List Nat} (h : glok xs = false) : getN xs = 0 ∧ getS xs = 0 := by unfold getN getS; rw [h]; exact ⟨rfl, rfl⟩
theorem glok_pre {xs : List Nat} (h1 : hd xs ≤ 8) (h2 : hd xs < xs.length) : decide ((leftN (inN xs)).length ≤ xs.length ∧ xs.take (leftN (inN xs)).length = leftN (inN xs)) = glok xs := by
  unfold glok
  rw [leftN_length]
  apply decide_eq_decide.2
  constructor
  · exact fun h => ⟨h1, h2, h.2⟩
  · intro h
    refine ⟨?_, h.2.2⟩
    have := congrArg List.length h.2.2
    rw [List.length_take, leftN_length] at this
    omega
end Go.Proofs.Ythdnolhbefikoaa.Cd
