/- Arrays of numbers by value: as arguments, and held against each other. No program is named here. -/
import Derived.Test.YtknogmianfnfoaaDoorBase
import Derived.DeepKeys
import Derived.ShutString
import Derived.Lib.SmallJoins
namespace Go.Proofs.YtknogmianfnfoaaDoor
open Go.RowKit Go.WideShapes
set_option linter.unusedVariables false
set_option linter.unusedSimpArgs false
/-- An array of numbers that came in. -/
theorem open_arrN {H : Type} {enc : TypeId × Value → H} {P : Program} {w : World} {base : Nat} {spare : Nat → Bool} {held : Bool} {r : Reach} {b0 : Nat} {t e : TypeId} {k : IntKind} {n : Nat} {v : Value} {d : DataW H} {p : List MemPlace}
    (ht : P.underlying t = some (.array n e)) (he : P.underlying e = some (.int k)) (hc : P.cellsOf e = 1) (hn : P.cellsOf t = n) (hv : Value.okWide P w r b0 t v) (h : DataW.Trod enc P w base spare held t v d p) :
    ∃ f : Nat → Int, v = .agg (tab n fun i => .int k (f i)) ∧ ∀ i, i < n → (Lit.int k (f i)).wf = true := by
  simp only [Value.okWide, ht] at hv
  obtain ⟨cs, rfl, hsz, _⟩ := hv
  rw [hn] at hsz
  obtain ⟨fuel, hf⟩ := h
  obtain ⟨xs, m, _, _, hl, hxl, hall⟩ := DataW.trod_array ht hf
  have key : ∀ i, i < n → ∃ a, cs[i]? = some (.int k a) ∧ (Lit.int k a).wf = true := fun i hi => by
    have h1 := hall i hi
    rw [List.getElem?_eq_getElem (by omega), hc, Nat.mul_one] at h1
    obtain ⟨a, ea, _, wa⟩ := DataW.trod_int he h1
    refine ⟨a, ?_, wa⟩
    have : (cs.toList.drop i).take 1 = [.int k a] := by simpa [Value.cells] using ea
    have h2 : cs.toList[i]? = some (.int k a) := by
      have h3 := congrArg (fun l => l[0]?) this
      simpa [List.getElem?_take, List.getElem?_drop] using h3
    simpa using h2
  refine ⟨fun i => match cs[i]? with | some (.int _ a) => a | _ => 0, ?_, fun i hi => ?_⟩
  · congr 1
    apply Array.ext_getElem?
    intro i
    rcases Nat.lt_or_ge i n with hi | hi
    · obtain ⟨a, ea, _⟩ := key i hi
      rw [tab_at _ _ _ hi]
      simp only [ea]
    · rw [Array.getElem?_eq_none (by omega), Array.getElem?_eq_none (by rw [tab_size]; omega)]
  · obtain ⟨a, ea, wa⟩ := key i hi
    simp only [ea]
    exact wa
/-- .. as natural numbers. -/
theorem open_arrU {H : Type} {enc : TypeId × Value → H} {P : Program} {w : World} {base : Nat} {spare : Nat → Bool} {held : Bool} {r : Reach} {b0 : Nat} {t e : TypeId} {k : IntKind} {n M : Nat} {v : Value} {d : DataW H} {p : List MemPlace}
    (hk : ∀ a : Int, (Lit.int k a).wf = true → 0 ≤ a ∧ a < M) (hM : 0 < M)
    (ht : P.underlying t = some (.array n e)) (he : P.underlying e = some (.int k)) (hc : P.cellsOf e = 1) (hn : P.cellsOf t = n) (hv : Value.okWide P w r b0 t v) (h : DataW.Trod enc P w base spare held t v d p) :
    ∃ f : Nat → Nat, v = .agg (tab n fun i => .int k (f i : Nat)) ∧ ∀ i, f i < M := by
  obtain ⟨f, rfl, hf⟩ := open_arrN ht he hc hn hv h
  refine ⟨fun i => if i < n then (f i).toNat else 0, ?_, fun i => ?_⟩
  · congr 1
    apply tab_congr
    intro i hi
    have := hk _ (hf i hi)
    show Value.int k (f i) = Value.int k ((if i < n then (f i).toNat else 0 : Nat) : Int)
    rw [if_pos hi, Int.toNat_of_nonneg this.1]
  · show (if i < n then (f i).toNat else 0) < M
    split
    · rename_i hi
      have := hk _ (hf i hi)
      omega
    · exact hM
theorem eqItems_same {P : Program} (w : World) (d : Nat) {e : TypeId} {k : IntKind} (he : P.underlying e = some (.int k)) (hc : P.cellsOf e = 1) (n : Nat) (f : Nat → Int) : ∀ (is : List Nat), (∀ i ∈ is, i < n) →
    (Op.eqItems (d + 1) e (P.cellsOf e) (tab n fun i => .int k (f i)) (tab n fun i => .int k (f i)) is).run P w = .ok true w
  | [], _ => by simp [Op.eqItems]
  | i :: is, h => by
    have hp : P.plainKey e = true := by simp [Program.plainKey, he]
    have h1 := run_part_plain w hp (xs := tab n fun i => .int k (f i)) (off := i * P.cellsOf e) (v := .int k (f i)) (by rw [hc, Nat.mul_one]; exact tab_at _ _ _ (h i (by simp)))
    have h2 := run_equalIn_int w d e k k (f i) (f i) he
    have h3 := eqItems_same w d he hc n f is fun j hj => h j (by simp [hj])
    simp only [Op.eqItems, Sem.run_bind, h1, h2, Result.andThen_ok]
    simpa using h3
theorem equalIn_arr {P : Program} (w : World) {t e : TypeId} {k : IntKind} {n : Nat} {i : TypeInfo} (ht : P.underlying t = some (.array n e)) (he : P.underlying e = some (.int k)) (hi : P.info? e = some i) (hc : P.cellsOf e = 1) (f : Nat → Int) :
    (Op.equalIn 10000 t (.agg (tab n fun i => .int k (f i))) (.agg (tab n fun i => .int k (f i)))).run P w = .ok true w := by
  rw [show (10000 : Nat) = 9998 + 1 + 1 from rfl, run_equalIn_array w (9998 + 1) _ _ ht hi, eqItems_same w 9998 he hc n f _ (fun j hj => List.mem_range.1 hj)]
/-- An array of numbers is itself. -/
theorem eql_arr {P : Program} (w : World) {t e : TypeId} {k : IntKind} {n : Nat} {i : TypeInfo} (ht : P.underlying t = some (.array n e)) (he : P.underlying e = some (.int k)) (hi : P.info? e = some i) (hc : P.cellsOf e = 1) (f : Nat → Int) :
    (binOp .eql t (.agg (tab n fun i => .int k (f i))) (.agg (tab n fun i => .int k (f i)))).run P w = .ok (.bool true) w := by
  rw [run_eql_struct, equalIn_arr w ht he hi hc f]
  rfl
/-- Two arrays of numbers, held against each other. -/
theorem eqItems_all {P : Program} (w : World) (d : Nat) {e : TypeId} {k : IntKind} (he : P.underlying e = some (.int k)) (hc : P.cellsOf e = 1) (n : Nat) (f g : Nat → Int) : ∀ (is : List Nat), (∀ i ∈ is, i < n) →
    (Op.eqItems (d + 1) e (P.cellsOf e) (tab n fun i => .int k (f i)) (tab n fun i => .int k (g i)) is).run P w = .ok (is.all fun i => f i == g i) w
  | [], _ => by simp [Op.eqItems]
  | i :: is, h => by
    have hp : P.plainKey e = true := by simp [Program.plainKey, he]
    have h1 := run_part_plain w hp (xs := tab n fun i => .int k (f i)) (off := i * P.cellsOf e) (v := .int k (f i)) (by rw [hc, Nat.mul_one]; exact tab_at _ _ _ (h i (by simp)))
    have h1' := run_part_plain w hp (xs := tab n fun i => .int k (g i)) (off := i * P.cellsOf e) (v := .int k (g i)) (by rw [hc, Nat.mul_one]; exact tab_at _ _ _ (h i (by simp)))
    have h2 := run_equalIn_int w d e k k (f i) (g i) he
    have h3 := eqItems_all w d he hc n f g is fun j hj => h j (by simp [hj])
    simp only [Op.eqItems, Sem.run_bind, h1, h1', h2, Result.andThen_ok, List.all_cons]
    by_cases hfg : f i = g i
    · simpa [hfg] using h3
    · simp [hfg]
theorem eql_arrs {P : Program} (w : World) {t e : TypeId} {k : IntKind} {n : Nat} {i : TypeInfo} (ht : P.underlying t = some (.array n e)) (he : P.underlying e = some (.int k)) (hi : P.info? e = some i) (hc : P.cellsOf e = 1) (f g : Nat → Int) :
    (binOp .eql t (.agg (tab n fun i => .int k (f i))) (.agg (tab n fun i => .int k (g i)))).run P w = .ok (.bool ((List.range n).all fun i => f i == g i)) w := by
  rw [run_eql_struct, show (10000 : Nat) = 9998 + 1 + 1 from rfl, run_equalIn_array w (9998 + 1) _ _ ht hi, eqItems_all w 9998 he hc n f g _ (fun j hj => List.mem_range.1 hj)]
  rfl
end Go.Proofs.YtknogmianfnfoaaDoor
