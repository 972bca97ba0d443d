/- What a row's list of package-level variables gives: the cells of plain data, of whatever shape. No program is named here. -/
import Derived.Test.YtpdbbeafleeajaaDoorBase
import Derived.LaidLaws
import Derived.ChangeArms
import Derived.Lib.LaidTab
namespace Go.Proofs.YtpdbbeafleeajaaDoor
open Go.RowKit
set_option linter.unusedVariables false

/-- Pieces that follow each other: from s on, up to where. -/
def consec : Nat → List (Nat × Nat) → Option Nat
  | s, [] => some s
  | s, (o, l) :: r => if o = s then consec (s + l) r else none
theorem consec_le : ∀ (os : List (Nat × Nat)) (s e : Nat), consec s os = some e → s ≤ e
  | [], s, e, h => by simp [consec] at h; omega
  | (o, l) :: r, s, e, h => by
    unfold consec at h
    split at h
    · have := consec_le r _ _ h; omega
    · cases h
theorem consec_flat (cs : List Value) : ∀ (os : List (Nat × Nat)) (s e : Nat), consec s os = some e → (os.map fun x => (cs.drop x.1).take x.2).flatten = (cs.drop s).take (e - s)
  | [], s, e, h => by simp [consec] at h; subst h; simp
  | (o, l) :: r, s, e, h => by
    unfold consec at h
    split at h
    · rename_i ho
      subst ho
      have hle := consec_le r _ _ h
      rw [List.map_cons, List.flatten_cons, consec_flat cs r _ _ h]
      have h1 : e - o = l + (e - (o + l)) := by omega
      rw [h1, List.take_add, List.drop_drop]
    · cases h

def getAll {α : Type} : List (Option α) → Option (List α)
  | [] => some []
  | none :: _ => none
  | some a :: r => (getAll r).map (a :: ·)
theorem getAll_map {α : Type} : ∀ (l : List (Option α)) (r : List α), getAll l = some r → l = r.map some
  | [], r, h => by simp [getAll] at h; subst h; rfl
  | none :: l, r, h => by simp [getAll] at h
  | some a :: l, r, h => by
    simp only [getAll, Option.map_eq_some_iff] at h
    obtain ⟨r', h', rfl⟩ := h
    rw [getAll_map l r' h']; rfl

/-- THE CELLS OF PLAIN DATA (integers, bools, arrays and structs of these). -/
def lay (P : Program) : Nat → TypeId → DataW Unit → Option (List Value)
  | 0, _, _ => none
  | f + 1, t, d =>
    match P.underlying t, d with
    | some (.int k), .lit (.int k' n) => if k' = k then some [.int k n] else none
    | some .bool, .lit (.bool b) => some [.bool b]
    | some .string, .lit (.string l) => some [.string ⟨l.toArray⟩]
    | some (.array n e), .agg ds =>
      if ds.length = n ∧ consec 0 ((List.range n).map fun i => (i * P.cellsOf e, P.cellsOf e)) = some (P.cellsOf t) then (getAll (ds.map (lay P f e))).map List.flatten else none
    | some (.struct fs), .agg ds =>
      if ds.length = fs.toList.length ∧ consec 0 (fs.toList.map fun g => (g.offset, P.cellsOf g.type)) = some (P.cellsOf t) then (getAll ((fs.toList.zip ds).map fun x => lay P f x.1.type x.2)).map List.flatten else none
    | _, _ => none

theorem mapM_pieces {α β : Type} {f : α → Option β} : ∀ {l : List α} {r : List β}, l.mapM f = some r → l.length = r.length ∧ ∀ (i : Nat) a b, l[i]? = some a → r[i]? = some b → f a = some b := by
  intro l r h
  refine ⟨(Lib.mapM_length h).symm, fun i a b ha hb => ?_⟩
  obtain ⟨b', hb', hf⟩ := Lib.mapM_at h i a ha
  rw [hb] at hb'; cases hb'; exact hf

theorem lay_cells (P : Program) {enc : TypeId × Value → Unit} {w : World} {base : Nat} {sp : Nat → Bool} {held : Bool} :
    ∀ (f : Nat) (t : TypeId) (d : DataW Unit) (vs : List Value) (fuel : Nat) (cs : List Value) (p : List MemPlace),
      lay P f t d = some vs → DataW.trod enc P w base sp held fuel t cs = some (d, p) → cs = vs := by
  intro f
  induction f with
  | zero => intro t d vs fuel cs p h; simp [lay] at h
  | succ f ih =>
    intro t d vs fuel cs p h hd
    cases fuel with
    | zero => simp [DataW.trod] at hd
    | succ fuel =>
      unfold lay at h
      split at h
      · rename_i k k' n hu
        split at h
        · rename_i hk
          subst hk
          cases h
          obtain ⟨z, hc, hz, _⟩ := DataW.trod_int hu hd
          cases hz
          exact hc
        · cases h
      · rename_i b hu
        cases h
        unfold DataW.trod at hd
        rw [hu] at hd
        split at hd <;> simp_all
      · rename_i l hu
        cases h
        unfold DataW.trod at hd
        rw [hu] at hd
        split at hd <;> simp_all
        obtain ⟨_, h1, _⟩ := hd
        subst h1
        rfl
      · rename_i n e ds hu
        split at h
        · rename_i hc
          obtain ⟨hl, hcon⟩ := hc
          obtain ⟨ls, hls, rfl⟩ := Option.map_eq_some_iff.1 h
          unfold DataW.trod at hd
          rw [hu] at hd
          simp only at hd
          split at hd
          · rename_i hlen
            obtain ⟨xs, hm, hx⟩ := Option.map_eq_some_iff.1 hd
            have hds : xs.map (·.1) = ds := by have := congrArg Prod.fst hx; simpa using this
            obtain ⟨hxl, hxf⟩ := mapM_pieces hm
            have hls' := getAll_map _ _ hls
            have hfl := consec_flat cs _ _ _ hcon
            have e1 : ((List.range n).map fun i => (i * P.cellsOf e, P.cellsOf e)).map (fun x => (cs.drop x.1).take x.2) = ls := by
              apply List.ext_getElem?
              intro i
              by_cases hi : i < n
              · have hxi : i < xs.length := by rw [← hxl]; simpa using hi
                have h1 := hxf i i xs[i] (by simp [hi]) (by simp [hxi])
                have h2 : ds[i]? = some xs[i].1 := by rw [← hds]; simp [hxi]
                have h3 : (ds.map (lay P f e))[i]? = (ls.map some)[i]? := by rw [hls']
                rw [List.getElem?_map, h2, List.getElem?_map] at h3
                cases h4 : ls[i]? with
                | none => rw [h4] at h3; cases h3
                | some v =>
                  rw [h4] at h3
                  simp only [Option.map_some, Option.some.injEq] at h3
                  have := ih _ _ _ _ _ _ h3 h1
                  simp [hi, this]
              · have hll : ls.length = n := by have := congrArg List.length hls'; simp at this; omega
                rw [List.getElem?_eq_none (by simp; omega), List.getElem?_eq_none (by omega)]
            rw [e1] at hfl
            rw [hfl, List.drop_zero, Nat.sub_zero, ← hlen, List.take_length]
          · cases hd
        · cases h
      · rename_i fs ds hu
        split at h
        · rename_i hc
          obtain ⟨hl, hcon⟩ := hc
          obtain ⟨ls, hls, rfl⟩ := Option.map_eq_some_iff.1 h
          unfold DataW.trod at hd
          rw [hu] at hd
          simp only at hd
          split at hd
          · rename_i hlen
            obtain ⟨xs, hm, hx⟩ := Option.map_eq_some_iff.1 hd
            have hds : xs.map (·.1) = ds := by have := congrArg Prod.fst hx; simpa using this
            obtain ⟨hxl, hxf⟩ := mapM_pieces hm
            have hls' := getAll_map _ _ hls
            have hfl := consec_flat cs _ _ _ hcon
            have e1 : (fs.toList.map fun g => (g.offset, P.cellsOf g.type)).map (fun x => (cs.drop x.1).take x.2) = ls := by
              apply List.ext_getElem?
              intro i
              by_cases hi : i < fs.toList.length
              · have hxi : i < xs.length := by omega
                have h1 := hxf i fs.toList[i] xs[i] (List.getElem?_eq_getElem hi) (List.getElem?_eq_getElem hxi)
                have h2 : ds[i]? = some xs[i].1 := by rw [← hds, List.getElem?_map, List.getElem?_eq_getElem hxi]; rfl
                have h3 : ((fs.toList.zip ds).map fun x => lay P f x.1.type x.2)[i]? = (ls.map some)[i]? := by rw [hls']
                have hz : (fs.toList.zip ds)[i]? = some (fs.toList[i], xs[i].1) := List.getElem?_zip_eq_some.2 ⟨List.getElem?_eq_getElem hi, h2⟩
                rw [List.getElem?_map, hz, List.getElem?_map] at h3
                cases h4 : ls[i]? with
                | none => rw [h4] at h3; cases h3
                | some v =>
                  rw [h4] at h3
                  simp only [Option.map_some, Option.some.injEq] at h3
                  have := ih _ _ _ _ _ _ h3 h1
                  rw [List.getElem?_map, List.getElem?_map, List.getElem?_eq_getElem hi]
                  exact congrArg some this
              · have hll : ls.length = fs.toList.length := by have := congrArg List.length hls'; simp only [List.length_map, List.length_zip] at this; omega
                rw [List.getElem?_eq_none (by simp only [List.length_map]; omega), List.getElem?_eq_none (by omega)]
            rw [e1] at hfl
            rw [hfl, List.drop_zero, Nat.sub_zero, ← hlen, List.take_length]
          · cases hd
        · cases h
      · cases h

theorem laidVars_at {P : Program} {w : World} : ∀ {laid : List (String × DataW Unit)} {ps : List MemPlace}, DataW.LaidVars P w laid ps → ∀ (i : Nat) n d, laid[i]? = some (n, d) →
    ∃ g t cs fuel p, P.globalNamed n = some g ∧ (P.globals[g]?).map (·.type) = some t ∧ w.var? P n = some cs ∧ DataW.trod (fun _ => ()) P w 0 (fun _ => true) false fuel t cs.toList = some (d, p)
  | [], _, _, i, n, d, hi => by simp at hi
  | (m, c) :: r, ps, h, i, n, d, hi => by
    obtain ⟨g, t, cs, fuel, p, q, h1, h2, h3, h4, h5, _⟩ := h
    cases i with
    | zero => simp at hi; obtain ⟨rfl, rfl⟩ := hi; exact ⟨g, t, cs, fuel, p, h1, h2, h3, h4⟩
    | succ i => exact laidVars_at h5 i n d (by simpa using hi)

/-- FROM THE ROW's LIST TO THE CELLS: variable i of the list, its number g, its type t, its cells vs. -/
theorem laid_cell {P : Program} {W : World} {laid : List (String × DataW Unit)} (h : laidMet P laid W) (i : Nat) {n : String} {d : DataW Unit} (hi : laid[i]? = some (n, d)) {g : Nat} {t : TypeId} {vs : List Value}
    (hg : P.globalNamed n = some g) (hty : (P.globals[g]?).map (·.type) = some t) (f : Nat) (hv : lay P f t d = some vs) (j : Nat) (v : Value) (hj : vs[j]? = some v) : W.cell? ⟨g, j, none⟩ = some v := by
  obtain ⟨ps, hL, _⟩ := h
  obtain ⟨g', t', cs, fuel, p, h1, h2, h3, h4⟩ := laidVars_at hL i n d hi
  obtain rfl := Option.some.inj (hg.symm.trans h1)
  obtain rfl := Option.some.inj (hty.symm.trans h2)
  have e := lay_cells P f _ _ _ _ _ _ hv h4
  rw [World.var?_cell h1 h3 j]
  rw [← e] at hj
  simpa using hj
/-- FROM THE ROW's LIST TO THE WHOLE ROW of a variable's cells. -/
theorem laid_row {P : Program} {W : World} {laid : List (String × DataW Unit)} (h : laidMet P laid W) (i : Nat) {n : String} {d : DataW Unit} (hi : laid[i]? = some (n, d)) {g : Nat} {t : TypeId} {vs : List Value}
    (hg : P.globalNamed n = some g) (hty : (P.globals[g]?).map (·.type) = some t) (f : Nat) (hv : lay P f t d = some vs) : ∃ T fr, W.heap[g]? = some (.cells vs.toArray T fr) := by
  obtain ⟨ps, hL, _⟩ := h
  obtain ⟨g', t', cs, fuel, p, h1, h2, h3, h4⟩ := laidVars_at hL i n d hi
  obtain rfl := Option.some.inj (hg.symm.trans h1)
  obtain rfl := Option.some.inj (hty.symm.trans h2)
  have e := lay_cells P f _ _ _ _ _ _ hv h4
  subst e
  simp only [World.var?, hg, Option.bind_some] at h3
  split at h3
  · rename_i cs' T fr hc
    cases h3
    exact ⟨T, fr, by rw [hc]⟩
  · cases h3
end Go.Proofs.YtpdbbeafleeajaaDoor
