/- What a row's list of package-level variables gives: the cells of plain data, of whatever shape. No program is named here. | Structs and arrays by value that are handed in: each of their cells, by its own type. No program is named here. | A state of a hash of blocks (api.Block) by value, handed in: opened. | bytes.Buffer at this program: the kit's contract of Write, its table of numbers written out; Bytes; a buffer that is a struct's one field, holding plain bytes. | The long table and what tells it, without the theory of roots (made by tools/genktab.py); where table.First is there: the whole theory. | Rows that are held in a world: what they give, what keeps them. No program is named here. | Arrays of numbers by value: as arguments, and held against each other. No program is named here. | Layer 11: which states of a hash of blocks are right: words of 32 bits among eight words of 64. | Layer 4: the document's own answers (bit by bit): what each call tells. | Layer 4: the document's own answers: sums, differences, and the rest. | Layer 4: the document's own answers: bits, what is left over, what fits, the order. | Layer 4: math/bits' division of 128 bits by a number of 31. | Layer 4: the program's counts: what each call tells. | Layer 11: which states of a hash of blocks are right. | Layer 11: which states of a hash of blocks are right: Right. | slices.Reverse over bytes. -/
import Derived.Test.YtflgnhplbblokaaGreatDoorBna
import Derived.LaidLaws
import Derived.ChangeArms
import Derived.Lib.LaidTab
import Derived.OpenShut
import Derived.Test.YtflgnhplbblokaaGreatDoorRows
import Derived.Shelf.Bytes.WriteAt
import Derived.Shelf.RegionOpenPlain
import Derived.WalkMore
import Derived.Deep.LoopGhost
import Derived.StillTailTactics
import Derived.DeepKeys
import Derived.ShutString
import Derived.Lib.SmallJoins
import Derived.Lib.Walk
import Derived.Lib.Small
import Derived.Lib.Strings
import Derived.Lib.BitFns
import Derived.Laws.Externs
import Derived.Deep.MidRow
import Derived.Lib.OwnBridge
import Derived.Lib.SlicesMore
import Derived.Sort.WalkB12
section
namespace Go.Proofs.YtflgnhplbblokaaGreatDoor
open Go.RowKit
set_option linter.unusedVariables false

def consec : Nat → List (Nat × Nat) → Option Nat
  | s, [] => some s
  | s, (o, l) :: r => if o = s then consec (s + l) r else none
theorem consec_le : ∀ (os : List (Nat × Nat)) (s e : Nat), consec s os = some e → s ≤ e
  | [], s, e, h => by simp [consec] at h; omega
  | (o, l) :: r, s, e, h => by
    unfold consec at h
    split at h
    · have := consec_le r _ _ h; omega
    · cases h
theorem consec_flat (cs : List Value) : ∀ (os : List (Nat × Nat)) (s e : Nat), consec s os = some e → (os.map fun x => (cs.drop x.1).take x.2).flatten = (cs.drop s).take (e - s)
  | [], s, e, h => by simp [consec] at h; subst h; simp
  | (o, l) :: r, s, e, h => by
    unfold consec at h
    split at h
    · rename_i ho
      subst ho
      have hle := consec_le r _ _ h
      rw [List.map_cons, List.flatten_cons, consec_flat cs r _ _ h]
      have h1 : e - o = l + (e - (o + l)) := by omega
      rw [h1, List.take_add, List.drop_drop]
    · cases h

def getAll {α : Type} : List (Option α) → Option (List α)
  | [] => some []
  | none :: _ => none
  | some a :: r => (getAll r).map (a :: ·)
theorem getAll_map {α : Type} : ∀ (l : List (Option α)) (r : List α), getAll l = some r → l = r.map some
  | [], r, h => by simp [getAll] at h; subst h; rfl
  | none :: l, r, h => by simp [getAll] at h
  | some a :: l, r, h => by
    simp only [getAll, Option.map_eq_some_iff] at h
    obtain ⟨r', h', rfl⟩ := h
    rw [getAll_map l r' h']; rfl

def lay (P : Program) : Nat → TypeId → DataW Unit → Option (List Value)
  | 0, _, _ => none
  | f + 1, t, d =>
    match P.underlying t, d with
    | some (.int k), .lit (.int k' n) => if k' = k then some [.int k n] else none
    | some .bool, .lit (.bool b) => some [.bool b]
    | some .string, .lit (.string l) => some [.string ⟨l.toArray⟩]
    | some (.array n e), .agg ds =>
      if ds.length = n ∧ consec 0 ((List.range n).map fun i => (i * P.cellsOf e, P.cellsOf e)) = some (P.cellsOf t) then (getAll (ds.map (lay P f e))).map List.flatten else none
    | some (.struct fs), .agg ds =>
      if ds.length = fs.toList.length ∧ consec 0 (fs.toList.map fun g => (g.offset, P.cellsOf g.type)) = some (P.cellsOf t) then (getAll ((fs.toList.zip ds).map fun x => lay P f x.1.type x.2)).map List.flatten else none
    | _, _ => none

theorem mapM_pieces {α β : Type} {f : α → Option β} : ∀ {l : List α} {r : List β}, l.mapM f = some r → l.length = r.length ∧ ∀ (i : Nat) a b, l[i]? = some a → r[i]? = some b → f a = some b := by
  intro l r h
  refine ⟨(Lib.mapM_length h).symm, fun i a b ha hb => ?_⟩
  obtain ⟨b', hb', hf⟩ := Lib.mapM_at h i a ha
  rw [hb] at hb'; cases hb'; exact hf

theorem lay_cells (P : Program) {enc : TypeId × Value → Unit} {w : World} {base : Nat} {sp : Nat → Bool} {held : Bool} :
    ∀ (f : Nat) (t : TypeId) (d : DataW Unit) (vs : List Value) (fuel : Nat) (cs : List Value) (p : List MemPlace),
      lay P f t d = some vs → DataW.trod enc P w base sp held fuel t cs = some (d, p) → cs = vs := by
  intro f
  induction f with
  | zero => intro t d vs fuel cs p h; simp [lay] at h
  | succ f ih =>
    intro t d vs fuel cs p h hd
    cases fuel with
    | zero => simp [DataW.trod] at hd
    | succ fuel =>
      unfold lay at h
      split at h
      · rename_i k k' n hu
        split at h
        · rename_i hk
          subst hk
          cases h
          obtain ⟨z, hc, hz, _⟩ := DataW.trod_int hu hd
          cases hz
          exact hc
        · cases h
      · rename_i b hu
        cases h
        unfold DataW.trod at hd
        rw [hu] at hd
        split at hd <;> simp_all
      · rename_i l hu
        cases h
        unfold DataW.trod at hd
        rw [hu] at hd
        split at hd <;> simp_all
        obtain ⟨_, h1, _⟩ := hd
        subst h1
        rfl
      · rename_i n e ds hu
        split at h
        · rename_i hc
          obtain ⟨hl, hcon⟩ := hc
          obtain ⟨ls, hls, rfl⟩ := Option.map_eq_some_iff.1 h
          unfold DataW.trod at hd
          rw [hu] at hd
          simp only at hd
          split at hd
          · rename_i hlen
            obtain ⟨xs, hm, hx⟩ := Option.map_eq_some_iff.1 hd
            have hds : xs.map (·.1) = ds := by have := congrArg Prod.fst hx; simpa using this
            obtain ⟨hxl, hxf⟩ := mapM_pieces hm
            have hls' := getAll_map _ _ hls
            have hfl := consec_flat cs _ _ _ hcon
            have e1 : ((List.range n).map fun i => (i * P.cellsOf e, P.cellsOf e)).map (fun x => (cs.drop x.1).take x.2) = ls := by
              apply List.ext_getElem?
              intro i
              by_cases hi : i < n
              · have hxi : i < xs.length := by rw [← hxl]; simpa using hi
                have h1 := hxf i i xs[i] (by simp [hi]) (by simp [hxi])
                have h2 : ds[i]? = some xs[i].1 := by rw [← hds]; simp [hxi]
                have h3 : (ds.map (lay P f e))[i]? = (ls.map some)[i]? := by rw [hls']
                rw [List.getElem?_map, h2, List.getElem?_map] at h3
                cases h4 : ls[i]? with
                | none => rw [h4] at h3; cases h3
                | some v =>
                  rw [h4] at h3
                  simp only [Option.map_some, Option.some.injEq] at h3
                  have := ih _ _ _ _ _ _ h3 h1
                  simp [hi, this]
              · have hll : ls.length = n := by have := congrArg List.length hls'; simp at this; omega
                rw [List.getElem?_eq_none (by simp; omega), List.getElem?_eq_none (by omega)]
            rw [e1] at hfl
            rw [hfl, List.drop_zero, Nat.sub_zero, ← hlen, List.take_length]
          · cases hd
        · cases h
      · rename_i fs ds hu
        split at h
        · rename_i hc
          obtain ⟨hl, hcon⟩ := hc
          obtain ⟨ls, hls, rfl⟩ := Option.map_eq_some_iff.1 h
          unfold DataW.trod at hd
          rw [hu] at hd
          simp only at hd
          split at hd
          · rename_i hlen
            obtain ⟨xs, hm, hx⟩ := Option.map_eq_some_iff.1 hd
            have hds : xs.map (·.1) = ds := by have := congrArg Prod.fst hx; simpa using this
            obtain ⟨hxl, hxf⟩ := mapM_pieces hm
            have hls' := getAll_map _ _ hls
            have hfl := consec_flat cs _ _ _ hcon
            have e1 : (fs.toList.map fun g => (g.offset, P.cellsOf g.type)).map (fun x => (cs.drop x.1).take x.2) = ls := by
              apply List.ext_getElem?
              intro i
              by_cases hi : i < fs.toList.length
              · have hxi : i < xs.length := by omega
                have h1 := hxf i fs.toList[i] xs[i] (List.getElem?_eq_getElem hi) (List.getElem?_eq_getElem hxi)
                have h2 : ds[i]? = some xs[i].1 := by rw [← hds, List.getElem?_map, List.getElem?_eq_getElem hxi]; rfl
                have h3 : ((fs.toList.zip ds).map fun x => lay P f x.1.type x.2)[i]? = (ls.map some)[i]? := by rw [hls']
                have hz : (fs.toList.zip ds)[i]? = some (fs.toList[i], xs[i].1) := List.getElem?_zip_eq_some.2 ⟨List.getElem?_eq_getElem hi, h2⟩
                rw [List.getElem?_map, hz, List.getElem?_map] at h3
                cases h4 : ls[i]? with
                | none => rw [h4] at h3; cases h3
                | some v =>
                  rw [h4] at h3
                  simp only [Option.map_some, Option.some.injEq] at h3
                  have := ih _ _ _ _ _ _ h3 h1
                  rw [List.getElem?_map, List.getElem?_map, List.getElem?_eq_getElem hi]
                  exact congrArg some this
              · have hll : ls.length = fs.toList.length := by have := congrArg List.length hls'; simp only [List.length_map, List.length_zip] at this; omega
                rw [List.getElem?_eq_none (by simp only [List.length_map]; omega), List.getElem?_eq_none (by omega)]
            rw [e1] at hfl
            rw [hfl, List.drop_zero, Nat.sub_zero, ← hlen, List.take_length]
          · cases hd
        · cases h
      · cases h

theorem laidVars_at {P : Program} {w : World} : ∀ {laid : List (String × DataW Unit)} {ps : List MemPlace}, DataW.LaidVars P w laid ps → ∀ (i : Nat) n d, laid[i]? = some (n, d) →
    ∃ g t cs fuel p, P.globalNamed n = some g ∧ (P.globals[g]?).map (·.type) = some t ∧ w.var? P n = some cs ∧ DataW.trod (fun _ => ()) P w 0 (fun _ => true) false fuel t cs.toList = some (d, p)
  | [], _, _, i, n, d, hi => by simp at hi
  | (m, c) :: r, ps, h, i, n, d, hi => by
    obtain ⟨g, t, cs, fuel, p, q, h1, h2, h3, h4, h5, _⟩ := h
    cases i with
    | zero => simp at hi; obtain ⟨rfl, rfl⟩ := hi; exact ⟨g, t, cs, fuel, p, h1, h2, h3, h4⟩
    | succ i => exact laidVars_at h5 i n d (by simpa using hi)

theorem laid_cell {P : Program} {W : World} {laid : List (String × DataW Unit)} (h : laidMet P laid W) (i : Nat) {n : String} {d : DataW Unit} (hi : laid[i]? = some (n, d)) {g : Nat} {t : TypeId} {vs : List Value}
    (hg : P.globalNamed n = some g) (hty : (P.globals[g]?).map (·.type) = some t) (f : Nat) (hv : lay P f t d = some vs) (j : Nat) (v : Value) (hj : vs[j]? = some v) : W.cell? ⟨g, j, none⟩ = some v := by
  obtain ⟨ps, hL, _⟩ := h
  obtain ⟨g', t', cs, fuel, p, h1, h2, h3, h4⟩ := laidVars_at hL i n d hi
  obtain rfl := Option.some.inj (hg.symm.trans h1)
  obtain rfl := Option.some.inj (hty.symm.trans h2)
  have e := lay_cells P f _ _ _ _ _ _ hv h4
  rw [World.var?_cell h1 h3 j]
  rw [← e] at hj
  simpa using hj
theorem laid_row {P : Program} {W : World} {laid : List (String × DataW Unit)} (h : laidMet P laid W) (i : Nat) {n : String} {d : DataW Unit} (hi : laid[i]? = some (n, d)) {g : Nat} {t : TypeId} {vs : List Value}
    (hg : P.globalNamed n = some g) (hty : (P.globals[g]?).map (·.type) = some t) (f : Nat) (hv : lay P f t d = some vs) : ∃ T fr, W.heap[g]? = some (.cells vs.toArray T fr) := by
  obtain ⟨ps, hL, _⟩ := h
  obtain ⟨g', t', cs, fuel, p, h1, h2, h3, h4⟩ := laidVars_at hL i n d hi
  obtain rfl := Option.some.inj (hg.symm.trans h1)
  obtain rfl := Option.some.inj (hty.symm.trans h2)
  have e := lay_cells P f _ _ _ _ _ _ hv h4
  subst e
  simp only [World.var?, hg, Option.bind_some] at h3
  split at h3
  · rename_i cs' T fr hc
    cases h3
    exact ⟨T, fr, by rw [hc]⟩
  · cases h3
end Go.Proofs.YtflgnhplbblokaaGreatDoor
end

section
namespace Go.Proofs.YtflgnhplbblokaaGreatDoor
open Go.ChangeShapes Go.WideShapes Go.ChangeAt Go.RowKit
set_option linter.unusedVariables false
set_option linter.unusedSimpArgs false
def cellTy (P : Program) : Nat → TypeId → Nat → Option TypeId
  | 0, _, _ => none
  | d + 1, t, o => match P.underlying t with
    | some (.struct fs) => fs.toList.findSome? fun f => if f.offset ≤ o ∧ o < f.offset + P.cellsOf f.type then cellTy P d f.type (o - f.offset) else none
    | some (.array n e) => if P.cellsOf e = 0 then none else if o / P.cellsOf e < n then cellTy P d e (o % P.cellsOf e) else none
    | some _ => if o = 0 then some t else none
    | none => none
theorem at_take {α : Type} {l : List α} {k o : Nat} {c : α} (h : (l.take k)[o]? = some c) : l[o]? = some c := by
  rw [List.getElem?_take] at h
  split at h
  · exact h
  · cases h
section
variable {P : Program} {H : Type} {enc : TypeId × Value → H} {w : World} {base : Nat} {spare : Nat → Bool} {held : Bool}
theorem trod_one {t : TypeId} {d : TypeDesc} {fuel : Nat} {cs : List Value} {x : DataW H × List MemPlace} (hu : P.underlying t = some d) (h1 : ∀ fs, d ≠ .struct fs) (h2 : ∀ n e, d ≠ .array n e) (h : DataW.trod enc P w base spare held fuel t cs = some x) : ∃ c, cs = [c] := by
  cases fuel with
  | zero => simp [DataW.trod] at h
  | succ n =>
    unfold DataW.trod at h
    rw [hu] at h
    cases d with
    | struct fs => exact absurd rfl (h1 fs)
    | array n e => exact absurd rfl (h2 n e)
    | _ =>
      match cs, h with
      | [c], _ => exact ⟨c, rfl⟩
      | [], h => simp at h
      | a :: b :: l, h => simp at h
theorem trod_cell : ∀ (d : Nat) {t u : TypeId} {o : Nat} {fuel : Nat} {cs : List Value} {x : DataW H × List MemPlace}, cellTy P d t o = some u → DataW.trod enc P w base spare held fuel t cs = some x →
    ∃ n y c, cs[o]? = some c ∧ DataW.trod enc P w base spare held n u [c] = some y
  | 0, _, _, _, _, _, _, h, _ => by simp [cellTy] at h
  | d + 1, t, u, o, fuel, cs, x, h, ht => by
    unfold cellTy at h
    split at h
    · rename_i fs hu
      obtain ⟨f, hf, h2⟩ := List.exists_of_findSome?_eq_some h
      split at h2
      · rename_i hr
        obtain ⟨xs, n, rfl, rfl, _, hxl, hx⟩ := DataW.trod_struct hu ht
        obtain ⟨i, hi, e⟩ := List.getElem_of_mem hf
        have hfi : fs[i]? = some f := by rw [← Array.getElem?_toList, List.getElem?_eq_getElem hi, e]
        have h3 := hx i f hfi
        have hix : i < xs.length := by rw [hxl]; simpa using hi
        rw [List.getElem?_eq_getElem hix] at h3
        obtain ⟨n2, y2, c, hc, hy⟩ := trod_cell d h2 h3
        refine ⟨n2, y2, c, ?_, hy⟩
        have h4 := at_take hc
        rw [List.getElem?_drop] at h4
        rw [← h4]
        congr 1
        omega
      · cases h2
    · rename_i n e hu
      by_cases h0 : P.cellsOf e = 0
      · rw [if_pos h0] at h; cases h
      rw [if_neg h0] at h
      split at h
      · rename_i hr
        obtain ⟨xs, m, rfl, rfl, _, hxl, hx⟩ := DataW.trod_array hu ht
        have h3 := hx _ hr
        rw [List.getElem?_eq_getElem (by omega)] at h3
        obtain ⟨n2, y2, c, hc, hy⟩ := trod_cell d h h3
        refine ⟨n2, y2, c, ?_, hy⟩
        have h4 := at_take hc
        rw [List.getElem?_drop] at h4
        rw [← h4]
        congr 1
        rw [Nat.mul_comm]
        exact (Nat.div_add_mod _ _).symm
      · cases h
    · rename_i dd hn hm hu
      split at h
      · rename_i hr
        cases h
        subst hr
        obtain ⟨c, rfl⟩ := trod_one hu (fun fs e => hn fs e) (fun n e e2 => hm n e e2) ht
        exact ⟨fuel, x, c, rfl, ht⟩
      · cases h
    · cases h
theorem trod_bool1 {t : TypeId} {fuel : Nat} {c : Value} {x : DataW H × List MemPlace} (hu : P.underlying t = some .bool) (h : DataW.trod enc P w base spare held fuel t [c] = some x) : ∃ b, c = .bool b := by
  cases fuel with
  | zero => simp [DataW.trod] at h
  | succ n =>
    unfold DataW.trod at h
    rw [hu] at h
    cases c <;> first | exact ⟨_, rfl⟩ | (simp at h)
theorem trod_int1 {t : TypeId} {k : IntKind} {fuel : Nat} {c : Value} {x : DataW H × List MemPlace} (hu : P.underlying t = some (.int k)) (h : DataW.trod enc P w base spare held fuel t [c] = some x) : ∃ n, c = .int k n ∧ (Lit.int k n).wf = true := by
  obtain ⟨n, h1, _, h3⟩ := DataW.trod_int hu h
  exact ⟨n, by simpa using h1, h3⟩
theorem trod_int_at {d : Nat} {t u : TypeId} {k : IntKind} {o fuel : Nat} {cs : List Value} {x : DataW H × List MemPlace} (h : cellTy P d t o = some u) (hu : P.underlying u = some (.int k)) (ht : DataW.trod enc P w base spare held fuel t cs = some x) : ∃ n, cs[o]? = some (.int k n) ∧ (Lit.int k n).wf = true := by
  obtain ⟨n, y, c, h1, h2⟩ := trod_cell d h ht
  obtain ⟨m, rfl, h3⟩ := trod_int1 hu h2
  exact ⟨m, h1, h3⟩
theorem trod_u64_at {d : Nat} {t u : TypeId} {o fuel : Nat} {cs : List Value} {x : DataW H × List MemPlace} (h : cellTy P d t o = some u) (hu : P.underlying u = some (.int .u64)) (ht : DataW.trod enc P w base spare held fuel t cs = some x) : ∃ n : Nat, cs[o]? = some (.int .u64 (n : Int)) ∧ n < 18446744073709551616 := by
  obtain ⟨n, h1, h2⟩ := trod_int_at h hu ht
  obtain ⟨b0, b1⟩ := bounds_u64 h2
  obtain ⟨m, rfl⟩ := Int.eq_ofNat_of_zero_le b0
  exact ⟨m, h1, by omega⟩
theorem trod_bool_at {d : Nat} {t u : TypeId} {o fuel : Nat} {cs : List Value} {x : DataW H × List MemPlace} (h : cellTy P d t o = some u) (hu : P.underlying u = some .bool) (ht : DataW.trod enc P w base spare held fuel t cs = some x) : ∃ b, cs[o]? = some (.bool b) := by
  obtain ⟨n, y, c, h1, h2⟩ := trod_cell d h ht
  obtain ⟨b, rfl⟩ := trod_bool1 hu h2
  exact ⟨b, h1⟩
end
section
variable {P : Program} {H : Type} {enc : TypeId × Value → H} {w : World} {base : Nat} {held : Bool}
theorem trod_bytes_at {d : Nat} {t u e : TypeId} {o fuel : Nat} {cs : List Value} {x : DataW H × List MemPlace} (h : cellTy P d t o = some u) (hu : P.underlying u = some (.slice e)) (he : P.underlying e = some (.int .u8)) (hc : P.cellsOf e = 1) (ht : DataW.trod enc P w base (fun _ => true) held fuel t cs = some x) :
    ∃ A c xs, cs[o]? = some (.slice A xs.length c) ∧ (∀ x ∈ xs, x < 256) ∧ xs.length ≤ c ∧ c ≤ maxLen ∧ Words .u8 w A xs := by
  obtain ⟨n, y, c, h1, h2⟩ := trod_cell d h ht
  obtain ⟨A, l, c, zs, rfl, wr⟩ : ∃ A l c' zs, c = .slice A l c' ∧ IsRow .u8 w A l c' zs := by
    rcases open_ints hu he hc h2 with ⟨hcs, _⟩ | ⟨x, l, c, zs, hcs, _, hl, hm, hz, _, hcell, hwz⟩
    · exact ⟨none, 0, 0, [], by simpa using hcs, .inl ⟨rfl, rfl, rfl, rfl⟩⟩
    · exact ⟨some x, l, c, zs, by simpa using hcs, .inr ⟨_, rfl, hl, hm, by simpa using hz, hcell, hwz⟩⟩
  have hcap : l ≤ c ∧ c ≤ maxLen := by
    rcases wr with ⟨_, rfl, rfl, _⟩ | ⟨_, _, h1, h2, _⟩
    · exact ⟨Nat.le_refl _, Nat.zero_le _⟩
    · exact ⟨h1, h2⟩
  obtain ⟨xs, rfl, q1, q2, q3⟩ := words_of_row (fun n h => bounds_u8 h) wr
  exact ⟨A, c, xs, h1, fun x h => by have := q1 x h; omega, hcap.1, hcap.2, q3⟩
end
end Go.Proofs.YtflgnhplbblokaaGreatDoor
end

section
namespace Go.Proofs.YtflgnhplbblokaaGreatDoor
open Go.ChangeShapes Go.WideShapes Go.ChangeAt Go.RowKit
set_option linter.unusedVariables false
set_option linter.unusedSimpArgs false
def blkV (alg : Int) (h : Nat → Nat) (hi lo : Nat) (s : Value) (fl : Bool) : Array Value := #[.int .i64 alg, .int .u64 (h 0 : Nat), .int .u64 (h 1 : Nat), .int .u64 (h 2 : Nat), .int .u64 (h 3 : Nat), .int .u64 (h 4 : Nat), .int .u64 (h 5 : Nat), .int .u64 (h 6 : Nat), .int .u64 (h 7 : Nat), .int .u64 (hi : Nat), .int .u64 (lo : Nat), s, .bool fl]
set_option maxRecDepth 100000 in
theorem open_blk {H : Type} {enc : TypeId × Value → H} {W : World} {r : Go.Reach} {b base : Nat} {held : Bool} {v : Value} {d : DataW H} {p : List MemPlace} (hv : Value.okWide Tryz.prog W r b 29 v) (h : DataW.Trod enc Tryz.prog W base (fun _ => true) held 29 v d p) :
    ∃ (alg : Int) (hf : Nat → Nat) (hi lo : Nat) (A : Option Addr) (c : Nat) (xs : List Nat) (fl : Bool), v = .agg (blkV alg hf hi lo (.slice A xs.length c) fl) ∧ (∀ i, hf i < 18446744073709551616) ∧ hi < 18446744073709551616 ∧ lo < 18446744073709551616 ∧
      (∀ x ∈ xs, x < 256) ∧ xs.length ≤ c ∧ c ≤ maxLen ∧ Words .u8 W A xs ∧ (Lit.int .i64 alg).wf = true := by
  obtain ⟨cs, rfl, hsz⟩ := okWide_struct Tryz.underlying29 hv
  have h13 : cs.size = 13 := hsz.trans (by kernel_rfl)
  obtain ⟨fuel, hf⟩ := h
  have hf : DataW.trod enc Tryz.prog W base (fun _ => true) held fuel 29 cs.toList = some (d, p) := hf
  obtain ⟨alg, e0, w0⟩ := trod_int_at (d := 6) (o := 0) (by kernel_rfl) Tryz.underlying3 hf
  have cb : ((List.range 8).all fun i => cellTy Tryz.prog 6 29 (1 + i) == some 24) = true := by kernel_rfl
  have ct : ∀ i, i < 8 → cellTy Tryz.prog 6 29 (1 + i) = some 24 := fun i hi => by simpa using List.all_eq_true.1 cb i (List.mem_range.2 hi)
  have e1 : ∀ i, i < 8 → ∃ n : Nat, cs.toList[1 + i]? = some (.int .u64 (n : Int)) ∧ n < 18446744073709551616 := fun i hi => trod_u64_at (ct i hi) Tryz.underlying24 hf
  obtain ⟨hi, e9, w9⟩ := trod_u64_at (d := 6) (o := 9) (u := 24) (by kernel_rfl) Tryz.underlying24 hf
  obtain ⟨lo, e10, w10⟩ := trod_u64_at (d := 6) (o := 10) (u := 24) (by kernel_rfl) Tryz.underlying24 hf
  obtain ⟨A, c, xs, e11, q1, q2, q3, q4⟩ := trod_bytes_at (d := 6) (o := 11) (u := 22) (e := 5) (by kernel_rfl) Tryz.underlying22 Tryz.underlying5 (by kernel_rfl) hf
  obtain ⟨fl, e12⟩ := trod_bool_at (d := 6) (o := 12) (u := 4) (by kernel_rfl) Tryz.underlying4 hf
  have eh : ∀ i, i < 8 → cs.toList[1 + i]? = some (.int .u64 (((match cs.toList[1 + i]? with | some (.int _ n) => n.toNat | _ => 0) : Nat) : Int)) ∧ (match cs.toList[1 + i]? with | some (.int _ n) => n.toNat | _ => 0) < 18446744073709551616 := fun i hi => by
    obtain ⟨n, hn, hl⟩ := e1 i hi
    rw [hn]
    exact ⟨by simp, by simpa using hl⟩
  refine ⟨alg, fun i => if i < 8 then (match cs.toList[1 + i]? with | some (.int _ n) => n.toNat | _ => 0) else 0, hi, lo, A, c, xs, fl, ?_, fun i => ?_, w9, w10, q1, q2, q3, q4, w0⟩
  · congr 1
    apply Array.ext_getElem?
    intro i
    rw [← Array.getElem?_toList]
    unfold blkV
    match i with
    | 0 => rw [e0]; rfl
    | 1 => rw [show (1 : Nat) = 1 + 0 from rfl, (eh 0 (by omega)).1]; rfl
    | 2 => rw [show (2 : Nat) = 1 + 1 from rfl, (eh 1 (by omega)).1]; rfl
    | 3 => rw [show (3 : Nat) = 1 + 2 from rfl, (eh 2 (by omega)).1]; rfl
    | 4 => rw [show (4 : Nat) = 1 + 3 from rfl, (eh 3 (by omega)).1]; rfl
    | 5 => rw [show (5 : Nat) = 1 + 4 from rfl, (eh 4 (by omega)).1]; rfl
    | 6 => rw [show (6 : Nat) = 1 + 5 from rfl, (eh 5 (by omega)).1]; rfl
    | 7 => rw [show (7 : Nat) = 1 + 6 from rfl, (eh 6 (by omega)).1]; rfl
    | 8 => rw [show (8 : Nat) = 1 + 7 from rfl, (eh 7 (by omega)).1]; rfl
    | 9 => rw [e9]; rfl
    | 10 => rw [e10]; rfl
    | 11 => rw [e11]; rfl
    | 12 => rw [e12]; rfl
    | i + 13 => rw [List.getElem?_eq_none (by simp; omega)]; rfl
  · dsimp only
    split
    · exact (eh i (by assumption)).2
    · omega
end Go.Proofs.YtflgnhplbblokaaGreatDoor
end

section
namespace Go.Proofs.YtflgnhplbblokaaGreatDoor
open Go.RowKit
set_option linter.unusedVariables false
def bufF (n : Nat) : Nat := match n with
  | 180 => 71
  | 181 => 111
  | 184 => 112
  | 251 => 93
  | 252 => 94
  | 290 => 113
  | 324 => 129
  | n => n
def bufT (n : Nat) : Nat := match n with
  | 0 => 0
  | 3 => 3
  | 4 => 4
  | 5 => 5
  | 9 => 9
  | 20 => 20
  | 37 => 22
  | 75 => 114
  | 80 => 179
  | 91 => 74
  | 93 => 76
  | 130 => 119
  | 131 => 139
  | n => n
def bufG (n : Nat) : Nat := match n with
  | 14 => 1
  | n => n
def bufRen : Go.Shelf.Ren := { f := bufF, t := bufT, g := bufG }
set_option maxRecDepth 20000 in
theorem bufLays : LaysM.n180 Tryz.prog bufRen := by
  constructor
  · constructor
    all_goals first
      | kernel_rfl
      | (intro w; kernel_rfl)
  all_goals first
    | kernel_rfl
    | (intro w; kernel_rfl)
set_option maxRecDepth 100000 in
set_option maxHeartbeats 1600000 in
theorem buf_write0 (T : TypeId) (R : Nat → Option Value) (B b : Nat) (bs : List Value) (A : Option Addr) (c : Nat) (w : World) (h : LibA.IsBuffer T R 5 B b 0 bs w) :
    Calls Tryz.prog 71 #[.pointer (some ⟨b, 0, none⟩), .slice A 0 c] w fun e w' => e = .returned (.tuple #[.int .i64 0, .nilIface]) ∧ LibA.IsBuffer T R 5 B b 0 bs w' ∧ Below B w w' ∧ Lib.OthersKept 5 (some b) w w' := by
  obtain ⟨hB, v0, lr, hbk, -, -⟩ := id h
  have c2 : w.cell? ⟨b, 2, none⟩ = some (.int .i8 lr) := hbk.c2
  have f2 : w.frozen? ⟨b, 2, none⟩ = false := hbk.f 2
  have h' : LibA.IsBuffer T R 5 B b 0 bs (w.setCell ⟨b, 2, none⟩ (.int .i8 0)) := h.setLast 0
  have hbel0 : Below B w (w.setCell ⟨b, 2, none⟩ (.int .i8 0)) := (Below.refl B w).setCell (p := ⟨b, 2, none⟩) hB _
  have hk0 : Lib.OthersKept 5 (some b) w (w.setCell ⟨b, 2, none⟩ (.int .i8 0)) := (Lib.OthersKept.refl _ _ w).setCell ⟨b, 2, none⟩ rfl _
  clear hbk v0
  have hinfo : (Tryz.prog.info? 5).map (·.size) = some 1 := by kernel_rfl
  have hce : ∀ d dLen dCap W, (Builtin.copy_ #[22, 22] 3 #[.slice d dLen dCap, .slice A 0 c]).run Tryz.prog W = .ok (goInt 0) W := fun d dLen dCap W => run_copy_none W 22 22 3 5 d A dLen dCap 0 c Tryz.underlying22 hinfo (by simp)
  have hT : ∀ W, LibA.IsBuffer T R 5 B b 0 bs W → Calls Tryz.prog 93 #[.pointer (some ⟨b, 0, none⟩), .int .i64 0] W _ := fun W hW => Any.Buffer_tryGrow_at { bufLays with } T R B b 0 0 bs W hW
  go_enter Tryz.func71, Tryz.ntmps71
  go_wp2_with (go_at_call 93; refine (hT _ h').mono ?_)
  rintro e W1 (⟨rfl, xs, hxl, hI, hbel, hk, hg⟩ | ⟨rfl, rfl, hnr⟩)
  · clear h' c2 f2 hT
    have hx0 : xs = [] := List.eq_nil_of_length_eq_zero hxl
    subst hx0
    rw [List.append_nil] at hI
    obtain ⟨-, lr2, hc⟩ := hI.cases
    rcases hc with ⟨hb0, hbk2⟩ | ⟨g, cap, cur, hbk2, -, -, hnc, hcm, -, -, -⟩
    · subst hb0
      have d0 : W1.cell? ⟨b, 0, none⟩ = some (.slice none 0 0) := hbk2.c0
      go_wp2
      all_goals (go_ret2; first | exact ⟨rfl, hI, hbel0.trans hbel, hk0.trans hk⟩ | exact ⟨by simp, by simpa using hI, hbel0.trans hbel, hk0.trans hk⟩)
    · have d0 : W1.cell? ⟨b, 0, none⟩ = some (.slice (some ⟨g, 0, none⟩) bs.length cap) := hbk2.c0
      unfold maxLen at hcm
      go_wp2
      all_goals (go_ret2; first | exact ⟨rfl, hI, hbel0.trans hbel, hk0.trans hk⟩ | exact ⟨by simp, by simpa using hI, hbel0.trans hbel, hk0.trans hk⟩)
  · obtain ⟨_, _, _, _, hlt⟩ := hnr
    omega
theorem buf_write (T : TypeId) (R : Nat → Option Value) (B b : Nat) (xs ys : List Nat) (A : Option Addr) (c : Nat) (w : World) (h : LibA.IsBuffer T R 5 B b 0 (cellsOf .u8 xs) w) (hBw : B ≤ w.heap.size)
    (hA : ys ≠ [] → ∀ a, A = some a → a.block ≠ b) (hw : Words .u8 w A ys) (hlim : xs.length + ys.length ≤ 140737488355328) :
    Calls Tryz.prog 71 #[.pointer (some ⟨b, 0, none⟩), .slice A ys.length c] w fun e w' => e = .returned (.tuple #[.int .i64 ys.length, .nilIface]) ∧ LibA.IsBuffer T R 5 B b 0 (cellsOf .u8 (xs ++ ys)) w' ∧ Below B w w' ∧ Lib.OthersKept 5 (some b) w w' := by
  rcases ys.eq_nil_or_concat with rfl | ⟨zs, z, hz⟩
  · rw [List.append_nil]
    exact buf_write0 T R B b _ A c w h
  · have hpos : 0 < ys.length := by rw [hz]; simp
    obtain ⟨g, o, rfl, -, -⟩ := hw.block hpos
    rw [cellsOf_append]
    exact Any.Buffer_Write_at bufLays T R B b 0 (cellsOf .u8 xs) (cellsOf .u8 ys) ⟨g, o, none⟩ ys.length c w h hBw (cellsOf_oneCell _ _) (cellsOf_length _ _) (hA (fun e => by rw [e] at hpos; exact absurd hpos (by decide)) _ rfl)
      (fun j v hj => by
        have hj' : j < ys.length := by
          have := (List.getElem?_eq_some_iff.1 hj).1
          rwa [cellsOf_length] at this
        rw [cellsOf_at _ _ _ hj'] at hj
        obtain ⟨g2, o2, e2, hc⟩ := hw j hj'
        cases e2
        rw [Lib.addr_add, hc]
        exact hj)
      (cellsOf_oneCell _ _) (by rw [cellsOf_length]; exact hlim)
theorem buf_bytes (T : TypeId) (B b : Nat) (xs : List Nat) (w : World) (h : LibA.IsBuffer T (fun _ => none) 5 B b 0 (cellsOf .u8 xs) w) :
    Calls Tryz.prog 41 #[.pointer (some ⟨b, 0, none⟩)] w fun e w' => ∃ v, e = .returned v ∧ Row .u8 5 B w' v xs ∧ ∃ n, w' = w.drewN n := by
  have hmx : Tryz.prog.follows .mixedOrders = true := by kernel_rfl
  obtain ⟨hB, lr, hc⟩ := h.cases
  rcases hc with ⟨hnil, hbk⟩ | ⟨g, cap, cur, hbk, hBg, hg, hnc, hcm, hcs, htk, hgb⟩
  · have hn : xs = [] := List.eq_nil_of_length_eq_zero (by have := congrArg List.length hnil; rwa [cellsOf_length] at this)
    subst hn
    have c0 : w.cell? ⟨b, 0, none⟩ = some (.slice none 0 0) := hbk.c0
    have c1 : w.cell? ⟨b, 1, none⟩ = some (.int .i64 0) := hbk.c1
    go_enter Tryz.func41, Tryz.ntmps41
    go_wp2
    go_region_o
    all_goals (go_wp2; go_ret; exact ⟨_, rfl, Row.nil _ _ _ _, 1, rfl⟩)
  · rw [cellsOf_length] at hbk hnc htk
    have c0 : w.cell? ⟨b, 0, none⟩ = some (.slice (some ⟨g, 0, none⟩) xs.length cap) := hbk.c0
    have c1 : w.cell? ⟨b, 1, none⟩ = some (.int .i64 0) := hbk.c1
    have hcm' := hcm
    unfold maxLen at hcm'
    go_enter Tryz.func41, Tryz.ntmps41
    go_wp2
    go_region_o
    all_goals (go_wp2; go_ret; exact ⟨_, rfl, ⟨by rw [cellsOf_length, Nat.mul_one], .inr ⟨g, cap, cur, rfl, hBg, hg, hnc, hcm, by simpa using hcs, by simpa using htk⟩⟩, 1, rfl⟩)
end Go.Proofs.YtflgnhplbblokaaGreatDoor
end

section
namespace Go.Proofs.YtflgnhplbblokaaGreatDoor
open Go.RowKit
set_option linter.unusedVariables false
set_option linter.unusedSimpArgs false
def uTab (n : Nat) (f : Nat → Nat) : Array Value := tab n fun i => .int .u64 (f i : Nat)
theorem uTab_size (n : Nat) (f : Nat → Nat) : (uTab n f).size = n := tab_size _ _
theorem uTab_at (n : Nat) (f : Nat → Nat) (i : Nat) (h : i < n) : (uTab n f)[i]? = some (.int .u64 (f i : Nat)) := tab_at _ _ _ h
theorem uTab_getElem (n : Nat) (f : Nat → Nat) (i : Nat) (h : i < (uTab n f).size) : (uTab n f)[i] = .int .u64 (f i : Nat) := by
  have e := uTab_at n f i (by simpa [uTab_size] using h)
  rw [Array.getElem?_eq_getElem h] at e
  injection e
attribute [go_sem] uTab_size uTab_getElem
theorem uTab_congr {n : Nat} {f g : Nat → Nat} (h : ∀ i, i < n → f i = g i) : uTab n f = uTab n g := tab_congr fun i hi => by rw [h i hi]
theorem uTab_ones (n : Nat) (f : Nat → Nat) : OneCells (uTab n f) := tab_one _ _ fun _ => rfl
attribute [go_sem] uTab_ones
def kL : List Nat := [
  4794697086780616226, 8158064640168781261, 13096744586834688815, 16840607885511220156, 4131703408338449720, 6480981068601479193,
  10538285296894168987, 12329834152419229976, 15566598209576043074, 1334009975649890238, 2608012711638119052, 6128411473006802146,
  8268148722764581231, 9286055187155687089, 11230858885718282805, 13951009754708518548, 16472876342353939154, 17275323862435702243,
  1135362057144423861, 2597628984639134821, 3308224258029322869, 5365058923640841347, 6679025012923562964, 8573033837759648693,
  10970295158949994411, 12119686244451234320, 12683024718118986047, 13788192230050041572, 14330467153632333762, 15395433587784984357,
  489312712824947311, 1452737877330783856, 2861767655752347644, 3322285676063803686, 5560940570517711597, 5996557281743188959,
  7280758554555802590, 8532644243296465576, 9350256976987008742, 10552545826968843579, 11727347734174303076, 12113106623233404929,
  14000437183269869457, 14369950271660146224, 15101387698204529176, 15463397548674623760, 17586052441742319658, 1182934255886127544,
  1847814050463011016, 2177327727835720531, 2830643537854262169, 3796741975233480872, 4115178125766777443, 5681478168544905931,
  6601373596472566643, 7507060721942968483, 8399075790359081724, 8693463985226723168, 9568029438360202098, 10144078919501101548,
  10430055236837252648, 11840083180663258601, 13761210420658862357, 14299343276471374635, 14566680578165727644, 15097957966210449927,
  16922976911328602910, 17689382322260857208, 500013540394364858, 748580250866718886, 1242879168328830382, 1977374033974150939,
  2944078676154940804, 3659926193048069267, 4368137639120453308, 4836135668995329356, 5532061633213252278, 6448918945643986474,
  6902733635092675308, 7801388544844847127]
def kN (i : Nat) : Nat := kL.getD i 0
theorem kL_lt : AllLt 18446744073709551616 kL := by unfold AllLt; decide +kernel
theorem getD_lt {n : Nat} {l : List Nat} (h : AllLt n l) (hn : 0 < n) (i : Nat) : l.getD i 0 < n := by
  rcases Nat.lt_or_ge i l.length with hi | hi
  · exact h.at hi
  · rw [List.getD_eq_getElem?_getD, List.getElem?_eq_none hi]; exact hn
theorem kN_lt (i : Nat) : kN i < 18446744073709551616 := getD_lt kL_lt (by omega) i
def vTab (n : Nat) (f : Nat → Nat) : Array Value := tab n fun i => .int .u32 (f i : Nat)
theorem vTab_size (n : Nat) (f : Nat → Nat) : (vTab n f).size = n := tab_size _ _
theorem vTab_at (n : Nat) (f : Nat → Nat) (i : Nat) (h : i < n) : (vTab n f)[i]? = some (.int .u32 (f i : Nat)) := tab_at _ _ _ h
theorem vTab_ones (n : Nat) (f : Nat → Nat) : OneCells (vTab n f) := tab_one _ _ fun _ => rfl
attribute [go_sem] vTab_ones vTab_size
theorem uTab_cells (xs : List Nat) : (cellsOf .u64 xs).toArray = uTab xs.length fun i => xs.getD i 0 := by
  apply Array.ext_getElem?
  intro i
  by_cases h : i < xs.length
  · rw [List.getElem?_toArray, cellsOf_at _ _ _ h, uTab_at _ _ _ h]
  · rw [Array.getElem?_eq_none (by rw [List.size_toArray, cellsOf_length]; omega), Array.getElem?_eq_none (by rw [uTab_size]; omega)]
theorem RowOk.below {w w' : World} {n k B : Nat} (h : RowOk w n k) (hb : Below B w w') (hn : n < B) : RowOk w' n k := by
  obtain ⟨c, t, hg, hs⟩ := h
  exact ⟨c, t, (hb.block n hn).trans hg, hs⟩
theorem rowAt_setRow_at {w : World} {n k : Nat} {c : Array Value} (h : RowOk w n k) : rowAt (w.setRow n c) n = c := by
  obtain ⟨t, hg, hs⟩ := h.heap
  exact rowAt_of (setRow_heap _ _ _ _ _ _ hg)
theorem rowAt_setRow_past {w : World} {n m : Nat} {c : Array Value} (h : n ≠ m) : rowAt (w.setRow m c) n = rowAt w n := by unfold rowAt; rw [setRow_other _ _ _ _ h]
theorem RowOk.other {w : World} {n m k : Nat} {c : Array Value} (h : RowOk w n k) (hn : n ≠ m) : RowOk (w.setRow m c) n k := (RowOk_setRow_past hn).2 h
/-! ### Whole rows, loaded and stored -/
theorem row_ret {P : Program} {fn : Func} {T : TypeId} {d : TypeDesc} {Q : Ending → World → Prop} {a : Act} {w : World} {n p k : Nat} {c : Array Value} (hr : fn.results = #[.cell p T]) (hp : a.tmps.getD p undef = .pointer (some ⟨n, 0, none⟩)) (hn : RowOk w n k) (hv : rowAt w n = c)
    (hu : P.underlying T = some d) (hdd : (match d with | .struct _ | .array _ _ => true | _ => false) = true) (hi : (P.info? T).map (·.size) = some k) (hd : a.defers = []) (hQ : Q (.returned (.agg c)) w) : bodyPost P fn Q .ret a w := by
  obtain ⟨t, hg, hs⟩ := hn.heap
  rw [hv] at hg hs
  exact bodyPost_ret (results_cell_row hr _ _ n t _ (0, 0) _ hp hg hu hdd (by rw [hs, hi])) hd hQ
theorem load_row {P : Program} {w : World} {n : Nat} {T t : TypeId} {d : TypeDesc} {c : Array Value} {fr : Nat × Nat} (hg : w.heap[n]? = some (.cells c t fr))
    (hu : P.underlying T = some d) (hd : (match d with | .struct _ | .array _ _ => true | _ => false) = true) (hi : (P.info? T).map (·.size) = some c.size) :
    (loadRow T (.pointer (some ⟨n, 0, none⟩))).run P w = .ok (.agg c) w := by
  unfold loadRow
  simp only [Instr.loadAt, Instr.sureAddr, Sem.run_bind, Sem.run_pure, Result.andThen_ok]
  exact run_loadVar_row w n t T _ _ d hg hu hd hi

/-! ### The long table lies in the world -/
end Go.Proofs.YtflgnhplbblokaaGreatDoor
end

section
namespace Go.Proofs.YtflgnhplbblokaaGreatDoor.Rw
open Go.RowKit
set_option linter.unusedVariables false
set_option linter.unusedSimpArgs false
structure Hold (W : World) (n k : Nat) (u : Array Value) : Prop where
  ok : RowOk W n k
  at' : rowAt W n = u
theorem Hold.lt {W : World} {n k : Nat} {u : Array Value} (h : Hold W n k u) : n < W.heap.size := h.ok.lt
theorem Hold.heap {W : World} {n k : Nat} {u : Array Value} (h : Hold W n k u) : ∃ t, W.heap[n]? = some (.cells u t (0, 0)) ∧ u.size = k := by
  obtain ⟨t, hg, hs⟩ := h.ok.heap
  rw [h.at'] at hg hs
  exact ⟨t, hg, hs⟩
theorem Hold.cell {W : World} {n k i : Nat} {u : Array Value} {v : Value} (h : Hold W n k u) (hi : u[i]? = some v) : W.cell? ⟨n, i, none⟩ = some v := by
  obtain ⟨t, hg, _⟩ := h.heap
  exact (cell_of_row _ _ i _ _ _ hg).trans hi
theorem Hold.frozen {W : World} {n k : Nat} {u : Array Value} (h : Hold W n k u) (i : Nat) : W.frozen? ⟨n, i, none⟩ = false := by
  obtain ⟨t, hg, _⟩ := h.heap
  unfold World.frozen?
  simp [hg]
theorem Hold.setCell {W : World} {n k : Nat} {u : Array Value} (h : Hold W n k u) (i : Nat) (x : Value) : W.setCell ⟨n, i, none⟩ x = W.setRow n (u.setIfInBounds i x) := by
  obtain ⟨t, hg, _⟩ := h.heap
  exact setCell_eq_setRow _ _ _ _ _ _ _ hg
theorem Hold.below {W W' : World} {B n k : Nat} {u : Array Value} (h : Hold W n k u) (hb : Below B W W') (hn : n < B) : Hold W' n k u :=
  ⟨h.ok.below hb hn, by rw [← h.at']; unfold rowAt; rw [hb.block _ hn]⟩
theorem Hold.call {W W' : World} {n k : Nat} {u : Array Value} (h : Hold W n k u) (hb : Below W.heap.size W W') : Hold W' n k u := h.below hb h.lt
theorem Hold.drewN {W : World} {n k : Nat} {u : Array Value} (h : Hold W n k u) (m : Nat) : Hold (W.drewN m) n k u := h.call ((Below.refl _ _).drewN m)
theorem Hold.drew {W : World} {n k : Nat} {u : Array Value} (h : Hold W n k u) : Hold W.drew n k u := h.call ((Below.refl _ _).drewN 1)
theorem Hold.past {W : World} {n k : Nat} {u : Array Value} (h : Hold W n k u) (o : Obj) : Hold (W.alloc o) n k u := h.call ((Below.refl _ _).alloc (Nat.le_refl _) o)
theorem Hold.new (w : World) (u : Array Value) (T : TypeId) (k : Nat) (hk : u.size = k) : Hold (w.alloc (.cells u T)) w.heap.size k u := ⟨(RowOk_alloc_at rfl).2 hk, rowAt_alloc_at rfl⟩
theorem Hold.new1 (w : World) (o : Obj) (u : Array Value) (T : TypeId) (k : Nat) (hk : u.size = k) : Hold ((w.alloc o).alloc (.cells u T)) (w.heap.size + 1) k u := by
  have := Hold.new (w.alloc o) u T k hk
  rwa [World.size_alloc] at this
theorem Hold.new2 (w : World) (o o2 : Obj) (u : Array Value) (T : TypeId) (k : Nat) (hk : u.size = k) : Hold (((w.alloc o).alloc o2).alloc (.cells u T)) (w.heap.size + 1 + 1) k u := by
  have := Hold.new ((w.alloc o).alloc o2) u T k hk
  rwa [World.size_alloc, World.size_alloc] at this
theorem Hold.new3 (w : World) (o o2 o3 : Obj) (u : Array Value) (T : TypeId) (k : Nat) (hk : u.size = k) : Hold ((((w.alloc o).alloc o2).alloc o3).alloc (.cells u T)) (w.heap.size + 1 + 1 + 1) k u := by
  have := Hold.new (((w.alloc o).alloc o2).alloc o3) u T k hk
  rwa [World.size_alloc, World.size_alloc, World.size_alloc] at this
theorem Hold.set {W : World} {n k : Nat} {u : Array Value} (h : Hold W n k u) (u' : Array Value) (hu : u'.size = k) : Hold (W.setRow n u') n k u' := ⟨(RowOk_setRow_at h.ok).2 hu, rowAt_setRow_at h.ok⟩
theorem Hold.other {W : World} {n m k : Nat} {u : Array Value} (h : Hold W n k u) (u' : Array Value) (hn : n ≠ m) : Hold (W.setRow m u') n k u := ⟨(RowOk_setRow_past hn).2 h.ok, (rowAt_setRow_past hn).trans h.at'⟩
theorem Hold.load {P : Program} {W : World} {n k : Nat} {u : Array Value} {T : TypeId} {d : TypeDesc} (h : Hold W n k u) (hu : P.underlying T = some d) (hd : (match d with | .struct _ | .array _ _ => true | _ => false) = true) (hi : (P.info? T).map (·.size) = some k) :
    (loadRow T (.pointer (some ⟨n, 0, none⟩))).run P W = .ok (.agg u) W := by
  obtain ⟨t, hg, hs⟩ := h.heap
  exact load_row hg hu hd (by rw [hi, hs])
theorem below_drew {B : Nat} {w W : World} (h : Below B w W) : Below B w W.drew := h.drewN 1
theorem still_of {P : Program} {f : FuncId} {args : Array Value} {w : World} {v : Value} (h : Calls P f args w fun e w' => e = .returned v ∧ w = w') : Calls P f args w fun e w' => e = .returned v ∧ w' = w :=
  h.mono fun _ _ ⟨he, hm⟩ => ⟨he, hm.symm⟩
theorem still_all {P : Program} {id : Nat} {Q : Exit → Act → World → Prop} {a : Act} {w : World} {l : List Oper} (hm : P.follows .mixedOrders = true) (hB : Region.lexB .any l.toArray = true)
    (W : World) (hW : w.drew = W) (h : wpStill P l.toArray W (fun a' => Q .normal a' W) l a) : (Code.region id l.toArray true).wp P Q a w := by
  subst hW
  exact wp_region_still_lit hm hB h
theorem still_tail {P : Program} {id : Nat} {Q : Exit → Act → World → Prop} {a : Act} {w : World} {l : List Oper} (n : Nat) (hm : P.follows .mixedOrders = true) (hB : Region.lexTailB .any l.toArray n = true)
    (W : World) (hW : w.drew = W) (h : wpStill P l.toArray W (fun a' => wpList P l.toArray Q (l.drop n) a' W) (l.take n) a) : (Code.region id l.toArray true).wp P Q a w := by
  subst hW
  exact wp_region_still_tail n hm hB h
theorem index_tab {P : Program} {T e : TypeId} {n : Nat} (ht : P.underlying T = some (.array n e)) (hp : P.plainKey e = true) (hs : ∀ w, (sizeOf e).run P w = .ok 1 w) {cs : Array Value} {i : Nat} {v : Value} (hi : i < n) (hx : cs[i]? = some v) (w : World) :
    (Instr.index T (.agg cs) (.int .i64 (i : Int))).run P w = .ok v w := by
  have h1 : (0 : Int) ≤ (i : Int) ∧ (i : Int) < (n : Int) := by omega
  have h2 := run_part_plain w hp (xs := cs) (off := i * 1) (v := v) (by rw [Nat.mul_one]; exact hx)
  simp [Instr.index, asIntOf, run_underlying ht, Sem.run_bind, h1, hs, h2, Result.andThen_ok, hi]
  simpa using h2
theorem uTab_set (n : Nat) (f g : Nat → Nat) (k : Nat) (v : Int) (hk : v = (g k : Nat)) (ho : ∀ i, i < n → i ≠ k → g i = f i) : (uTab n f).setIfInBounds k (.int .u64 v) = uTab n g :=
  tab_set n _ _ k _ (by rw [hk]) fun i hi hn => by show Value.int .u64 ((g i : Nat) : Int) = Value.int .u64 ((f i : Nat) : Int); rw [ho i hi hn]
theorem bits_xor (x y : Nat) (hx : x < 18446744073709551616) (hy : y < 18446744073709551616) : bits BinOp.xor IntKind.u64 (x : Int) (y : Int) = ((x ^^^ y : Nat) : Int) := u64_xor_nat x y hx hy
end Go.Proofs.YtflgnhplbblokaaGreatDoor.Rw
end

section
namespace Go.Proofs.YtflgnhplbblokaaGreatDoor
open Go.RowKit Go.WideShapes
set_option linter.unusedVariables false
set_option linter.unusedSimpArgs false
theorem open_arrN {H : Type} {enc : TypeId × Value → H} {P : Program} {w : World} {base : Nat} {spare : Nat → Bool} {held : Bool} {r : Reach} {b0 : Nat} {t e : TypeId} {k : IntKind} {n : Nat} {v : Value} {d : DataW H} {p : List MemPlace}
    (ht : P.underlying t = some (.array n e)) (he : P.underlying e = some (.int k)) (hc : P.cellsOf e = 1) (hn : P.cellsOf t = n) (hv : Value.okWide P w r b0 t v) (h : DataW.Trod enc P w base spare held t v d p) :
    ∃ f : Nat → Int, v = .agg (tab n fun i => .int k (f i)) ∧ ∀ i, i < n → (Lit.int k (f i)).wf = true := by
  simp only [Value.okWide, ht] at hv
  obtain ⟨cs, rfl, hsz, _⟩ := hv
  rw [hn] at hsz
  obtain ⟨fuel, hf⟩ := h
  obtain ⟨xs, m, _, _, hl, hxl, hall⟩ := DataW.trod_array ht hf
  have key : ∀ i, i < n → ∃ a, cs[i]? = some (.int k a) ∧ (Lit.int k a).wf = true := fun i hi => by
    have h1 := hall i hi
    rw [List.getElem?_eq_getElem (by omega), hc, Nat.mul_one] at h1
    obtain ⟨a, ea, _, wa⟩ := DataW.trod_int he h1
    refine ⟨a, ?_, wa⟩
    have : (cs.toList.drop i).take 1 = [.int k a] := by simpa [Value.cells] using ea
    have h2 : cs.toList[i]? = some (.int k a) := by
      have h3 := congrArg (fun l => l[0]?) this
      simpa [List.getElem?_take, List.getElem?_drop] using h3
    simpa using h2
  refine ⟨fun i => match cs[i]? with | some (.int _ a) => a | _ => 0, ?_, fun i hi => ?_⟩
  · congr 1
    apply Array.ext_getElem?
    intro i
    rcases Nat.lt_or_ge i n with hi | hi
    · obtain ⟨a, ea, _⟩ := key i hi
      rw [tab_at _ _ _ hi]
      simp only [ea]
    · rw [Array.getElem?_eq_none (by omega), Array.getElem?_eq_none (by rw [tab_size]; omega)]
  · obtain ⟨a, ea, wa⟩ := key i hi
    simp only [ea]
    exact wa
theorem open_arrU {H : Type} {enc : TypeId × Value → H} {P : Program} {w : World} {base : Nat} {spare : Nat → Bool} {held : Bool} {r : Reach} {b0 : Nat} {t e : TypeId} {k : IntKind} {n M : Nat} {v : Value} {d : DataW H} {p : List MemPlace}
    (hk : ∀ a : Int, (Lit.int k a).wf = true → 0 ≤ a ∧ a < M) (hM : 0 < M)
    (ht : P.underlying t = some (.array n e)) (he : P.underlying e = some (.int k)) (hc : P.cellsOf e = 1) (hn : P.cellsOf t = n) (hv : Value.okWide P w r b0 t v) (h : DataW.Trod enc P w base spare held t v d p) :
    ∃ f : Nat → Nat, v = .agg (tab n fun i => .int k (f i : Nat)) ∧ ∀ i, f i < M := by
  obtain ⟨f, rfl, hf⟩ := open_arrN ht he hc hn hv h
  refine ⟨fun i => if i < n then (f i).toNat else 0, ?_, fun i => ?_⟩
  · congr 1
    apply tab_congr
    intro i hi
    have := hk _ (hf i hi)
    show Value.int k (f i) = Value.int k ((if i < n then (f i).toNat else 0 : Nat) : Int)
    rw [if_pos hi, Int.toNat_of_nonneg this.1]
  · show (if i < n then (f i).toNat else 0) < M
    split
    · rename_i hi
      have := hk _ (hf i hi)
      omega
    · exact hM
theorem eqItems_same {P : Program} (w : World) (d : Nat) {e : TypeId} {k : IntKind} (he : P.underlying e = some (.int k)) (hc : P.cellsOf e = 1) (n : Nat) (f : Nat → Int) : ∀ (is : List Nat), (∀ i ∈ is, i < n) →
    (Op.eqItems (d + 1) e (P.cellsOf e) (tab n fun i => .int k (f i)) (tab n fun i => .int k (f i)) is).run P w = .ok true w
  | [], _ => by simp [Op.eqItems]
  | i :: is, h => by
    have hp : P.plainKey e = true := by simp [Program.plainKey, he]
    have h1 := run_part_plain w hp (xs := tab n fun i => .int k (f i)) (off := i * P.cellsOf e) (v := .int k (f i)) (by rw [hc, Nat.mul_one]; exact tab_at _ _ _ (h i (by simp)))
    have h2 := run_equalIn_int w d e k k (f i) (f i) he
    have h3 := eqItems_same w d he hc n f is fun j hj => h j (by simp [hj])
    simp only [Op.eqItems, Sem.run_bind, h1, h2, Result.andThen_ok]
    simpa using h3
theorem equalIn_arr {P : Program} (w : World) {t e : TypeId} {k : IntKind} {n : Nat} {i : TypeInfo} (ht : P.underlying t = some (.array n e)) (he : P.underlying e = some (.int k)) (hi : P.info? e = some i) (hc : P.cellsOf e = 1) (f : Nat → Int) :
    (Op.equalIn 10000 t (.agg (tab n fun i => .int k (f i))) (.agg (tab n fun i => .int k (f i)))).run P w = .ok true w := by
  rw [show (10000 : Nat) = 9998 + 1 + 1 from rfl, run_equalIn_array w (9998 + 1) _ _ ht hi, eqItems_same w 9998 he hc n f _ (fun j hj => List.mem_range.1 hj)]
theorem eql_arr {P : Program} (w : World) {t e : TypeId} {k : IntKind} {n : Nat} {i : TypeInfo} (ht : P.underlying t = some (.array n e)) (he : P.underlying e = some (.int k)) (hi : P.info? e = some i) (hc : P.cellsOf e = 1) (f : Nat → Int) :
    (binOp .eql t (.agg (tab n fun i => .int k (f i))) (.agg (tab n fun i => .int k (f i)))).run P w = .ok (.bool true) w := by
  rw [run_eql_struct, equalIn_arr w ht he hi hc f]
  rfl
theorem eqItems_all {P : Program} (w : World) (d : Nat) {e : TypeId} {k : IntKind} (he : P.underlying e = some (.int k)) (hc : P.cellsOf e = 1) (n : Nat) (f g : Nat → Int) : ∀ (is : List Nat), (∀ i ∈ is, i < n) →
    (Op.eqItems (d + 1) e (P.cellsOf e) (tab n fun i => .int k (f i)) (tab n fun i => .int k (g i)) is).run P w = .ok (is.all fun i => f i == g i) w
  | [], _ => by simp [Op.eqItems]
  | i :: is, h => by
    have hp : P.plainKey e = true := by simp [Program.plainKey, he]
    have h1 := run_part_plain w hp (xs := tab n fun i => .int k (f i)) (off := i * P.cellsOf e) (v := .int k (f i)) (by rw [hc, Nat.mul_one]; exact tab_at _ _ _ (h i (by simp)))
    have h1' := run_part_plain w hp (xs := tab n fun i => .int k (g i)) (off := i * P.cellsOf e) (v := .int k (g i)) (by rw [hc, Nat.mul_one]; exact tab_at _ _ _ (h i (by simp)))
    have h2 := run_equalIn_int w d e k k (f i) (g i) he
    have h3 := eqItems_all w d he hc n f g is fun j hj => h j (by simp [hj])
    simp only [Op.eqItems, Sem.run_bind, h1, h1', h2, Result.andThen_ok, List.all_cons]
    by_cases hfg : f i = g i
    · simpa [hfg] using h3
    · simp [hfg]
theorem equalIn_arrs {P : Program} (w : World) {t e : TypeId} {k : IntKind} {n : Nat} {i : TypeInfo} (ht : P.underlying t = some (.array n e)) (he : P.underlying e = some (.int k)) (hi : P.info? e = some i) (hc : P.cellsOf e = 1) (f g : Nat → Int) :
    (Op.equalIn 10000 t (.agg (tab n fun i => .int k (f i))) (.agg (tab n fun i => .int k (g i)))).run P w = .ok ((List.range n).all fun i => f i == g i) w := by
  rw [show (10000 : Nat) = 9998 + 1 + 1 from rfl, run_equalIn_array w (9998 + 1) _ _ ht hi, eqItems_all w 9998 he hc n f g _ (fun j hj => List.mem_range.1 hj)]
theorem eql_arrs {P : Program} (w : World) {t e : TypeId} {k : IntKind} {n : Nat} {i : TypeInfo} (ht : P.underlying t = some (.array n e)) (he : P.underlying e = some (.int k)) (hi : P.info? e = some i) (hc : P.cellsOf e = 1) (f g : Nat → Int) :
    (binOp .eql t (.agg (tab n fun i => .int k (f i))) (.agg (tab n fun i => .int k (g i)))).run P w = .ok (.bool ((List.range n).all fun i => f i == g i)) w := by
  rw [run_eql_struct, show (10000 : Nat) = 9998 + 1 + 1 from rfl, run_equalIn_array w (9998 + 1) _ _ ht hi, eqItems_all w 9998 he hc n f g _ (fun j hj => List.mem_range.1 hj)]
  rfl
end Go.Proofs.YtflgnhplbblokaaGreatDoor
end

section
namespace Go.Proofs.YtflgnhplbblokaaGreatDoor.Mk
open Go.RowKit Rw
set_option linter.unusedVariables false
set_option linter.unusedSimpArgs false
theorem vTab_list (n : Nat) (f : Nat → Nat) : vTab n f = (cellsOf .u32 ((List.range n).map f)).toArray := by
  apply Array.ext_getElem?
  intro i
  by_cases h : i < n
  · rw [vTab_at _ _ _ h, List.getElem?_toArray, cellsOf_at _ _ _ (by simpa using h), getD_map _ _ _ _ h]
  · rw [Array.getElem?_eq_none (by rw [vTab_size]; omega), Array.getElem?_eq_none (by simp [cellsOf]; omega)]
def vUp (f : Nat → Nat) (k i : Nat) : Nat := if i < k then f i else 0
theorem vUp_zero (f : Nat → Nat) : vTab 8 (vUp f 0) = vTab 8 fun _ => 0 := tab_congr fun i _ => by simp [vUp]
theorem vUp_full (f : Nat → Nat) : vTab 8 (vUp f 8) = vTab 8 f := tab_congr fun i hi => by simp [vUp, hi]
theorem vUp_step (f : Nat → Nat) (k : Nat) (v : Int) (hv : v = (f k : Nat)) : (vTab 8 (vUp f k)).setIfInBounds k (.int .u32 v) = vTab 8 (vUp f (k + 1)) :=
  tab_set 8 _ _ k _ (by simp [vUp, hv]) fun i _ hn => by unfold vUp; by_cases h : i < k <;> simp [h, show i < k + 1 ↔ i < k by omega]
theorem uUp_zero (f : Nat → Nat) : uTab 8 (vUp f 0) = uTab 8 fun _ => 0 := tab_congr fun i _ => by simp [vUp]
theorem uUp_full (f : Nat → Nat) : uTab 8 (vUp f 8) = uTab 8 f := tab_congr fun i hi => by simp [vUp, hi]
theorem uUp_step (f : Nat → Nat) (k : Nat) (v : Int) (hv : v = (f k : Nat)) : (uTab 8 (vUp f k)).setIfInBounds k (.int .u64 v) = uTab 8 (vUp f (k + 1)) :=
  tab_set 8 _ _ k _ (by simp [vUp, hv]) fun i _ hn => by unfold vUp; by_cases h : i < k <;> simp [h, show i < k + 1 ↔ i < k by omega]
theorem load8k (x : Value) : Instr.loadAt 25 x = loadRow 25 x := rfl
theorem store8k (x y : Value) : Instr.storeAt 25 x y = storeRow 25 x y := rfl
theorem run_load8k {w : World} {n : Nat} (hg : RowOk w n 8) : (loadRow 25 (.pointer (some ⟨n, 0, none⟩))).run Tryz.prog w = .ok (.agg (rowAt w n)) w :=
  loadAt_row hg Tryz.underlying25 rfl (by kernel_rfl)
theorem run_store8k {w : World} {n : Nat} {c' : Array Value} (hg : RowOk w n 8) (hs' : c'.size = 8) (h1 : OneCells c') :
    (storeRow 25 (.pointer (some ⟨n, 0, none⟩)) (.agg c')).run Tryz.prog w = .ok () (w.setRow n c') := storeAt_row hg (by kernel_rfl) hs' h1
theorem zero8k (w : World) : (zeroValue 25).run Tryz.prog w = .ok (.agg (uTab 8 fun _ => 0)) w := by kernel_rfl
theorem load8v (x : Value) : Instr.loadAt 142 x = loadRow 142 x := rfl
theorem store8v (x y : Value) : Instr.storeAt 142 x y = storeRow 142 x y := rfl
theorem run_load8v {w : World} {n : Nat} (hg : RowOk w n 8) : (loadRow 142 (.pointer (some ⟨n, 0, none⟩))).run Tryz.prog w = .ok (.agg (rowAt w n)) w :=
  loadAt_row hg Tryz.underlying142 rfl (by kernel_rfl)
theorem run_store8v {w : World} {n : Nat} {c' : Array Value} (hg : RowOk w n 8) (hs' : c'.size = 8) (h1 : OneCells c') :
    (storeRow 142 (.pointer (some ⟨n, 0, none⟩)) (.agg c')).run Tryz.prog w = .ok () (w.setRow n c') := storeAt_row hg (by kernel_rfl) hs' h1
theorem zero8v (w : World) : (zeroValue 142).run Tryz.prog w = .ok (.agg (vTab 8 fun _ => 0)) w := by kernel_rfl
theorem index8k {h : Nat → Nat} {k : Nat} (hk : k < 8) (w : World) : (Instr.index 25 (.agg (uTab 8 h)) (.int .i64 (k : Int))).run Tryz.prog w = .ok (.int .u64 (h k : Nat)) w :=
  index_tab Tryz.underlying25 (by kernel_rfl) (fun w => by kernel_rfl) hk (uTab_at 8 h k hk) w
theorem index8v {h : Nat → Nat} {k : Nat} (hk : k < 8) (w : World) : (Instr.index 142 (.agg (vTab 8 h)) (.int .i64 (k : Int))).run Tryz.prog w = .ok (.int .u32 (h k : Nat)) w :=
  index_tab Tryz.underlying142 (by kernel_rfl) (fun w => by kernel_rfl) hk (vTab_at 8 h k hk) w
section
attribute [local go_sem ↓] load8k store8k zero8k load8v store8v zero8v
attribute [local go_sem] run_load8k run_store8k run_load8v run_store8v
set_option maxRecDepth 100000 in
set_option maxHeartbeats 1000000 in
theorem narrowed_any (h : Nat → Nat) (hh : ∀ i, h i < 18446744073709551616) (w : World) : Calls Tryz.prog 162 #[.agg (uTab 8 h)] w fun e w' => e = .returned (.agg (vTab 8 fun i => h i % 4294967296)) ∧ Below w.heap.size w w' := by
  obtain ⟨f, hf⟩ : ∃ f : Nat → Nat, f = fun i => h i % 4294967296 := ⟨_, rfl⟩
  have HF : Hid (∀ i, f i = h i % 4294967296) := fun i => by rw [hf]
  rw [← hf]
  clear hf
  go_enter Tryz.func162, Tryz.ntmps162
  go_wp2
  obtain ⟨W0, hW0⟩ : ∃ W0, W0 = (((w.alloc (.cells (uTab 8 h) 25)).alloc (.cells (vTab 8 fun _ => 0) 142)).alloc (.cells (vTab 8 fun _ => 0) 142)) := ⟨_, rfl⟩
  have F0 : Hid (Below w.heap.size w W0 ∧ Hold W0 (w.heap.size + 1) 8 (vTab 8 fun _ => 0) ∧ Hold W0 (w.heap.size + 1 + 1) 8 (vTab 8 (vUp f 0))) := by
    rw [vUp_zero, hW0]
    exact ⟨(((Below.refl _ w).alloc (Nat.le_refl _) _).alloc (by simp) _).alloc (by simp; omega) _, (Hold.new1 w _ (vTab 8 fun _ => 0) _ 8 (vTab_size _ _)).past _, Hold.new2 w _ _ (vTab 8 fun _ => 0) _ 8 (vTab_size _ _)⟩
  rw [← hW0]
  clear hW0
  go_loopg [7] 8 (fun g i wr => ∃ k : Nat, k + g = 8 ∧ i = .int .i64 (k : Nat) ∧ Hid (Below w.heap.size w wr ∧ Hold wr (w.heap.size + 1) 8 (vTab 8 fun _ => 0) ∧ Hold wr (w.heap.size + 1 + 1) 8 (vTab 8 (vUp f k))))
  case atStart => exact ⟨0, by omega, rfl, F0⟩
  case round =>
    clear F0
    obtain ⟨k, hk, rfl, HR⟩ := hrel
    by_cases h8 : k < 8
    · obtain ⟨g, rfl⟩ : ∃ g, gk = g + 1 := ⟨gk - 1, by omega⟩
      obtain ⟨hB, h1, h2⟩ := HR.out
      clear HR
      have q0 := fun W => index8k (h := h) h8 W
      have q2 := h2.frozen k
      have q3 := h2.setCell k
      have i1 : (k : Int) < 8 := by omega
      have HS := Lib.hid (vUp_step f k ((h k : Int) % 4294967296) (by rw [HF.out]; omega))
      have F1 : Hid (∀ v, Below w.heap.size w (wr.setRow (w.heap.size + 1 + 1) ((vTab 8 (vUp f k)).setIfInBounds k v)) ∧ Hold (wr.setRow (w.heap.size + 1 + 1) ((vTab 8 (vUp f k)).setIfInBounds k v)) (w.heap.size + 1) 8 (vTab 8 fun _ => 0)
          ∧ Hold (wr.setRow (w.heap.size + 1 + 1) ((vTab 8 (vUp f k)).setIfInBounds k v)) (w.heap.size + 1 + 1) 8 ((vTab 8 (vUp f k)).setIfInBounds k v)) := fun v =>
        ⟨below_setRow hB (by omega) _, h1.other _ (by omega), h2.set _ (by rw [Array.size_setIfInBounds, vTab_size])⟩
      have q4 : wr.cell? ⟨w.heap.size + 1 + 1, k, none⟩ = some (.int .u32 (vUp f k k : Nat)) := h2.cell (vTab_at 8 _ k h8)
      clear hB h1 h2
      generalize h k = y at *
      go_wp2
      go_roundg g
      case measure => omega
      case rel => exact ⟨k + 1, by omega, by go_num, by have := F1.out (.int .u32 ((y : Int) % 4294967296)); rw [HS.out] at this ⊢; exact this⟩
    · obtain rfl : k = 8 := by omega
      obtain ⟨hB, h1, h2⟩ := HR.out
      rw [vUp_full] at h2
      have q1 := h2.ok
      have q1' := h2.at'
      have q2 := h1.ok
      go_wp2
      refine row_ret (P := Tryz.prog) (n := w.heap.size + 1) (p := 2) (k := 8) (c := vTab 8 f) rfl rfl (h1.set _ (vTab_size _ _)).ok (h1.set _ (vTab_size _ _)).at' Tryz.underlying142 rfl (by kernel_rfl) rfl ⟨rfl, below_setRow hB (by omega) _⟩
end
section
attribute [local go_sem ↓] load8k store8k zero8k load8v store8v zero8v
attribute [local go_sem] run_load8k run_store8k run_load8v run_store8v
set_option maxRecDepth 100000 in
set_option maxHeartbeats 1000000 in
theorem widened_any (h : Nat → Nat) (hh : ∀ i, h i < 4294967296) (w : World) : Calls Tryz.prog 161 #[.agg (vTab 8 h)] w fun e w' => e = .returned (.agg (uTab 8 h)) ∧ Below w.heap.size w w' := by
  obtain ⟨f, hf⟩ : ∃ f : Nat → Nat, f = h := ⟨_, rfl⟩
  have HF : Hid (∀ i, f i = h i) := fun i => by rw [hf]
  rw [← hf]
  rw [show vTab 8 f = vTab 8 h by rw [hf]]
  clear hf
  go_enter Tryz.func161, Tryz.ntmps161
  go_wp2
  obtain ⟨W0, hW0⟩ : ∃ W0, W0 = (((w.alloc (.cells (vTab 8 h) 142)).alloc (.cells (uTab 8 fun _ => 0) 25)).alloc (.cells (uTab 8 fun _ => 0) 25)) := ⟨_, rfl⟩
  have F0 : Hid (Below w.heap.size w W0 ∧ Hold W0 (w.heap.size + 1) 8 (uTab 8 fun _ => 0) ∧ Hold W0 (w.heap.size + 1 + 1) 8 (uTab 8 (vUp f 0))) := by
    rw [uUp_zero, hW0]
    exact ⟨(((Below.refl _ w).alloc (Nat.le_refl _) _).alloc (by simp) _).alloc (by simp; omega) _, (Hold.new1 w _ (uTab 8 fun _ => 0) _ 8 (uTab_size _ _)).past _, Hold.new2 w _ _ (uTab 8 fun _ => 0) _ 8 (uTab_size _ _)⟩
  rw [← hW0]
  clear hW0
  go_loopg [7] 8 (fun g i wr => ∃ k : Nat, k + g = 8 ∧ i = .int .i64 (k : Nat) ∧ Hid (Below w.heap.size w wr ∧ Hold wr (w.heap.size + 1) 8 (uTab 8 fun _ => 0) ∧ Hold wr (w.heap.size + 1 + 1) 8 (uTab 8 (vUp f k))))
  case atStart => exact ⟨0, by omega, rfl, F0⟩
  case round =>
    clear F0
    obtain ⟨k, hk, rfl, HR⟩ := hrel
    by_cases h8 : k < 8
    · obtain ⟨g, rfl⟩ : ∃ g, gk = g + 1 := ⟨gk - 1, by omega⟩
      obtain ⟨hB, h1, h2⟩ := HR.out
      clear HR
      have q0 := fun W => index8v (h := h) h8 W
      have q2 := h2.frozen k
      have q3 := h2.setCell k
      have i1 : (k : Int) < 8 := by omega
      have HS := Lib.hid (uUp_step f k (IntKind.u64.wrap (h k : Int)) (by rw [HF.out, IntKind.wrap_u64]; have := hh k; omega))
      have F1 : Hid (∀ v, Below w.heap.size w (wr.setRow (w.heap.size + 1 + 1) ((uTab 8 (vUp f k)).setIfInBounds k v)) ∧ Hold (wr.setRow (w.heap.size + 1 + 1) ((uTab 8 (vUp f k)).setIfInBounds k v)) (w.heap.size + 1) 8 (uTab 8 fun _ => 0)
          ∧ Hold (wr.setRow (w.heap.size + 1 + 1) ((uTab 8 (vUp f k)).setIfInBounds k v)) (w.heap.size + 1 + 1) 8 ((uTab 8 (vUp f k)).setIfInBounds k v)) := fun v =>
        ⟨below_setRow hB (by omega) _, h1.other _ (by omega), h2.set _ (by rw [Array.size_setIfInBounds, uTab_size])⟩
      have q4 : wr.cell? ⟨w.heap.size + 1 + 1, k, none⟩ = some (.int .u64 (vUp f k k : Nat)) := h2.cell (uTab_at 8 _ k h8)
      clear hB h1 h2
      generalize h k = y at *
      go_wp2
      go_roundg g
      case measure => omega
      case rel => exact ⟨k + 1, by omega, by go_num, by have := F1.out (.int .u64 (IntKind.u64.wrap (y : Int))); rw [HS.out] at this ⊢; exact this⟩
    · obtain rfl : k = 8 := by omega
      obtain ⟨hB, h1, h2⟩ := HR.out
      rw [uUp_full] at h2
      have q1 := h2.ok
      have q1' := h2.at'
      have q2 := h1.ok
      go_wp2
      refine row_ret (P := Tryz.prog) (n := w.heap.size + 1) (p := 2) (k := 8) (c := uTab 8 f) rfl rfl (h1.set _ (uTab_size _ _)).ok (h1.set _ (uTab_size _ _)).at' Tryz.underlying25 rfl (by kernel_rfl) rfl ⟨rfl, below_setRow hB (by omega) _⟩
end
end Go.Proofs.YtflgnhplbblokaaGreatDoor.Mk
end

section
namespace Go.Proofs.YtflgnhplbblokaaGreatDoor
open Go.RowKit
set_option linter.unusedVariables false

theorem load136 (x : Value) : Instr.loadAt 97 x = loadRow 97 x := rfl
theorem store136 (x y : Value) : Instr.storeAt 97 x y = storeRow 97 x y := rfl
theorem run_load136 {w : World} {n : Nat} (hg : RowOk w n 136) : (loadRow 97 (.pointer (some ⟨n, 0, none⟩))).run Tryz.prog w = .ok (.agg (rowAt w n)) w :=
  loadAt_row hg Tryz.underlying97 rfl (by kernel_rfl)
theorem run_store136 {w : World} {n : Nat} {c' : Array Value} (hg : RowOk w n 136) (hs' : c'.size = 136) (h1 : OneCells c') :
    (storeRow 97 (.pointer (some ⟨n, 0, none⟩)) (.agg c')).run Tryz.prog w = .ok () (w.setRow n c') := storeAt_row hg (by kernel_rfl) hs' h1
theorem zero136 (w : World) : (zeroValue 97).run Tryz.prog w = .ok (.agg (arr 136 fun _ => 0)) w := by kernel_rfl
attribute [go_sem ↓] load136 store136 zero136
attribute [go_sem] run_load136 run_store136

def numC (hi lo : Nat) : Nat := hi * 18446744073709551616 + lo
theorem numC_lo (hi lo i : Nat) (hl : lo < 18446744073709551616) (h : i < 64) : bitI (numC hi lo) i = bitI lo i := by
  rw [bitI_eq, bitI_eq, numC, show 18446744073709551616 = 2 ^ 64 from rfl, Nat.mul_comm, Nat.testBit_two_pow_mul_add _ (by exact hl), if_pos h]
theorem numC_hi (hi lo i : Nat) (hl : lo < 18446744073709551616) : bitI (numC hi lo) (i + 64) = bitI hi i := by
  rw [bitI_eq, bitI_eq, numC, show 18446744073709551616 = 2 ^ 64 from rfl, Nat.mul_comm, Nat.testBit_two_pow_mul_add _ (by exact hl), if_neg (Nat.not_lt.2 (Nat.le_add_left _ _)), Nat.add_sub_cancel]
theorem numC_lt {hi lo : Nat} (hh : hi < 18446744073709551616) (hl : lo < 18446744073709551616) : numC hi lo < 340282366920938463463374607431768211456 := by unfold numC; omega
def cbits (V k : Nat) : Array Value := arr 136 fun i => if i < k ∨ 64 ≤ i ∧ i < 64 + k then bitI V i else 0
theorem cbits_full {V : Nat} (hV : V < 340282366920938463463374607431768211456) : cbits V 64 = arr 136 (bitI V) := arr_congr fun i hi => by
  by_cases h : i < 64 ∨ 64 ≤ i ∧ i < 64 + 64
  · rw [if_pos h]
  · rw [if_neg h, bitI_eq, Nat.testBit_lt_two_pow (Nat.lt_of_lt_of_le (show V < 2 ^ 128 from hV) (Nat.pow_le_pow_right (by omega) (by omega)))]; rfl
theorem cbits_step (V k : Nat) (hk : k < 64) (a b : Int) (ha : a = bitI V k) (hb : b = bitI V (k + 64)) : ((cbits V k).setIfInBounds k (.int .i64 a)).setIfInBounds (k + 64) (.int .i64 b) = cbits V (k + 1) := by
  subst ha; subst hb
  rw [cbits, arr_set 136 _ (fun i => if i < k + 1 ∨ 64 ≤ i ∧ i < 64 + k then bitI V i else 0) k _ (by rw [if_pos (by omega)]) (fun i _ hn => by
    by_cases h : i < k ∨ 64 ≤ i ∧ i < 64 + k
    · rw [if_pos h, if_pos (by omega)]
    · rw [if_neg h, if_neg (by omega)])]
  exact arr_set 136 _ _ (k + 64) _ (by rw [if_pos (by omega)]) fun i _ hn => by
    by_cases h : i < k + 1 ∨ 64 ≤ i ∧ i < 64 + k
    · rw [if_pos h, if_pos (by omega)]
    · rw [if_neg h, if_neg (by omega)]
theorem cbits_zero (V : Nat) : cbits V 0 = arr 136 fun _ => 0 := arr_congr fun i _ => by rw [if_neg (by omega)]

set_option maxRecDepth 100000 in
set_option maxHeartbeats 2000000 in
theorem cbits_any (hi lo : Nat) (hh : hi < 18446744073709551616) (hl : lo < 18446744073709551616) (w : World) :
    Calls Tryz.prog 61 #[.agg #[.int .u64 (hi : Int), .int .u64 (lo : Int)]] w fun e w' => e = .returned (.agg (arr 136 (bitI (numC hi lo)))) ∧ Below w.heap.size w w' := by
  rw [← cbits_full (numC_lt hh hl)]
  go_enter Tryz.func61, Tryz.ntmps61
  go_wp2
  rw [← cbits_zero (numC hi lo)]
  go_loopw [4] (fun i wr => ∃ k : Nat, k ≤ 64 ∧ i = .int .i64 k ∧
      wr = ((w.alloc (.cells #[.int .u64 (shr hi k : Nat), .int .u64 (shr lo k : Nat)] 27)).alloc (.cells (cbits (numC hi lo) 0) 97)).alloc (.cells (cbits (numC hi lo) k) 97)) (fun i _ => 64 - (intOf i).toNat)
  case atStart => exact ⟨0, by omega, rfl, by rw [shr_zero, shr_zero]⟩
  case round =>
    obtain ⟨k, hk, rfl, rfl⟩ := hrel
    by_cases hlt : k < 64
    · have hs : (cbits (numC hi lo) k).size = 136 := arr_size _ _
      have hc1 : (cbits (numC hi lo) k)[k]? = some (.int .i64 _) := arr_at 136 _ k (by omega)
      have hc2 : (cbits (numC hi lo) k)[k + 64]? = some (.int .i64 _) := arr_at 136 _ (k + 64) (by omega)
      rw [if_neg (by omega)] at hc1 hc2
      have d1 := shr_le hi k
      have d2 := shr_le lo k
      have HT := Lib.hid (fun a b => cbits_step (numC hi lo) k hlt a b)
      have S1 := Lib.hid (shr_succ hi k)
      have S2 := Lib.hid (shr_succ lo k)
      have B1 := Lib.hid (numC_lo hi lo k hl hlt)
      have B2 := Lib.hid (numC_hi hi lo k hl)
      have U1 : Hid (bitI hi k = (shr hi k : Nat) % 2) := rfl
      have U2 : Hid (bitI lo k = (shr lo k : Nat) % 2) := rfl
      generalize shr hi k = p at *
      generalize shr lo k = q at *
      go_wp2
      go_roundw
      case rel => exact ⟨k + 1, by omega, by go_num, by rw [S1.out, S2.out, ← HT.out _ _ (B1.out.trans U2.out).symm (B2.out.trans U1.out).symm]; simp only [Int.natCast_ediv, Int.cast_ofNat_Int]⟩
      case measure => simp [intOf]; omega
    · obtain rfl : k = 64 := by omega
      have s1 : (cbits (numC hi lo) 0).size = 136 := arr_size _ _
      have s2 : (cbits (numC hi lo) 64).size = 136 := arr_size _ _
      have o2 : OneCells (cbits (numC hi lo) 64) := arr_ones _ _
      go_wp2
      refine bodyPost_ret (v := .agg (cbits (numC hi lo) 64)) ?_ rfl ⟨rfl, (((Below.refl _ _).alloc (Nat.le_refl _) _).alloc (by simp) _).alloc (by simp; omega) _⟩
      have hh2 := heap_alloc2_old (w.alloc (.cells #[.int .u64 (shr hi 64 : Nat), .int .u64 (shr lo 64 : Nat)] 27)) (.cells (cbits (numC hi lo) 64) 97) (.cells (cbits (numC hi lo) 64) 97)
      rw [World.size_alloc] at hh2
      exact results_cell_row rfl _ _ (w.heap.size + 1) 97 _ (0, 0) _ rfl hh2 Tryz.underlying97 rfl (by rw [s2]; kernel_rfl)
def ofC (t h l : Nat) : Value := if t = 0 then .tuple #[.agg #[.int .u64 (h : Int), .int .u64 (l : Int)], .bool true] else .tuple #[.agg #[.int .u64 0, .int .u64 0], .bool false]
theorem ofC_yes (h l : Nat) : ofC 0 h l = .tuple #[.agg #[.int .u64 (h : Int), .int .u64 (l : Int)], .bool true] := rfl
theorem ofC_no {t : Nat} (ht : t ≠ 0) (h l : Nat) : ofC t h l = .tuple #[.agg #[.int .u64 0, .int .u64 0], .bool false] := if_neg ht
theorem zero_of_bits {t : Nat} (ht : t < 256) (h : ∀ j, j < 8 → bitI t j = 0) : t = 0 := bitI_inj (n := 8) ht (by omega) fun i hi => by
  rw [h i hi, bitI_eq, Nat.zero_testBit]; rfl
theorem bit_of_shr {x j : Nat} (h : x < 18446744073709551616) (hj : j < 64) : 2 * (shr x (j + 1) : Int) + bitI x j ≤ 18446744073709551615 := by
  have h1 := shr_bit x j
  have h2 := shr_le x j
  omega
set_option maxRecDepth 100000 in
set_option maxHeartbeats 4000000 in
theorem cof_any (t h l : Nat) (ht : t < 256) (hh : h < 18446744073709551616) (hl : l < 18446744073709551616) (f : Nat → Int) (hfl : ∀ i, i < 64 → f i = bitI l i) (hfh : ∀ i, i < 64 → f (i + 64) = bitI h i) (hft : ∀ i, i < 8 → f (i + 128) = bitI t i) (w : World) :
    Calls Tryz.prog 102 #[.agg (arr 136 f)] w fun e w' => e = .returned (ofC t h l) ∧ Below w.heap.size w w' := by
  have s0 : (arr 136 f).size = 136 := arr_size _ _
  have o0 : OneCells (arr 136 f) := arr_ones _ _
  have HL := Lib.hid hfl
  have HH := Lib.hid hfh
  have HT := Lib.hid hft
  have HA := Lib.hid (fun i hi => arr_at 136 f i hi)
  clear hfl hfh hft
  generalize arr 136 f = F at *
  go_enter Tryz.func102, Tryz.ntmps102
  go_wp2
  go_loopw [5] (fun i wr => ∃ j n : Nat, j ≤ 64 ∧ i = .int .i64 ((j : Int) - 1) ∧
      wr = (((w.alloc (.cells F 97)).alloc (.cells #[.int .u64 0, .int .u64 0] 27)).alloc (.cells #[.int .u64 (shr h j : Nat), .int .u64 (shr l j : Nat)] 27)).drewN n) (fun i _ => (intOf i + 1).toNat)
  case atStart => exact ⟨64, 0, Nat.le_refl _, rfl, by rw [shr_lt (n := 64) hh (Nat.le_refl _), shr_lt (n := 64) hl (Nat.le_refl _)]; rfl⟩
  case round =>
    obtain ⟨j, n, hj, rfl, rfl⟩ := hrel
    rcases j with _ | j
    · have c0 := Lib.hid HA
      go_wp2
      go_loop [6] (fun i => ∃ k : Nat, k ≤ 8 ∧ i = .int .i64 ((k : Int) + 128) ∧ Hid (∀ j, j < k → bitI t j = 0)) (fun i => (136 - intOf i).toNat)
      case atStart => exact ⟨0, by omega, rfl, fun j hj => by omega⟩
      case round =>
        obtain ⟨k, hk, rfl, hz⟩ := hrel
        by_cases hlt : k < 8
        · have c1 := HA.out (k + 128) (by omega)
          rw [HT.out k hlt] at c1
          have r1 := bitI_range t k
          by_cases hb : bitI t k = 1
          · have hb1 : (bitI t k == 1) = true := by simp [hb]
            have HO : Hid (ofC t h l = .tuple #[.agg #[.int .u64 0, .int .u64 0], .bool false]) := ofC_no (fun e => by subst e; rw [bitI_eq, Nat.zero_testBit] at hb; exact absurd hb (by decide)) h l
            clear hb
            generalize bitI t k = b at *
            go_wp2
            refine bodyPost_ret (v := .tuple #[.agg #[.int .u64 0, .int .u64 0], .bool false]) (by simp [results, Tryz.results102, go_sem]) rfl ⟨by rw [HO.out], ?_⟩
            exact ((((Below.refl _ _).alloc (Nat.le_refl _) _).alloc (by simp) _).alloc (by simp; omega) _).drewN n
          · have hb1 : (bitI t k == 1) = false := by simp [hb]
            have HZ : Hid (∀ j, j < k + 1 → bitI t j = 0) := fun i hi => by
              rcases Nat.lt_or_ge i k with h | h
              · exact hz.out i h
              · rw [show i = k by omega]; omega
            clear hb
            generalize bitI t k = b at *
            go_wp2
            go_round
            case rel => exact ⟨k + 1, by omega, by go_num, HZ⟩
            case measure => simp [intOf]; omega
        · obtain rfl : k = 8 := by omega
          obtain rfl : t = 0 := zero_of_bits ht hz.out
          go_wp2
          refine bodyPost_ret (v := .tuple #[.agg #[.int .u64 (shr h 0 : Nat), .int .u64 (shr l 0 : Nat)], .bool true]) (by simp [results, Tryz.results102, go_sem]) rfl ⟨by rw [shr_zero, shr_zero, ofC_yes], ?_⟩
          exact ((((Below.refl _ _).alloc (Nat.le_refl _) _).alloc (by simp) _).alloc (by simp; omega) _).drewN n
    · have c1 := HA.out j (by omega)
      have c2 := HA.out (j + 64) (by omega)
      rw [HL.out j (by omega)] at c1
      rw [HH.out j (by omega)] at c2
      have r1 := bitI_range l j
      have r2 := bitI_range h j
      have S1 := Lib.hid (shr_bit l j)
      have S2 := Lib.hid (shr_bit h j)
      have b1 := bit_of_shr hl (show j < 64 by omega)
      have b2 := bit_of_shr hh (show j < 64 by omega)
      generalize bitI l j = p at *
      generalize bitI h j = q at *
      generalize shr l (j + 1) = x at *
      generalize shr h (j + 1) = y at *
      go_wp2
      go_region
      go_wp2
      go_region
      go_wp2
      go_roundw
      case rel => exact ⟨j, n + 1 + 1, by omega, rfl, by rw [S1.out, S2.out]⟩
      case measure => simp [intOf]
end Go.Proofs.YtflgnhplbblokaaGreatDoor
end

section
namespace Go.Proofs.YtflgnhplbblokaaGreatDoor
open Go.RowKit
set_option linter.unusedVariables false

theorem loadC (x : Value) : Instr.loadAt 27 x = loadRow 27 x := rfl
theorem storeC (x y : Value) : Instr.storeAt 27 x y = storeRow 27 x y := rfl
theorem run_loadC {w : World} {n : Nat} (hg : RowOk w n 2) : (loadRow 27 (.pointer (some ⟨n, 0, none⟩))).run Tryz.prog w = .ok (.agg (rowAt w n)) w :=
  loadAt_row hg Tryz.underlying27 rfl (by kernel_rfl)
theorem run_storeC {w : World} {n : Nat} {c' : Array Value} (hg : RowOk w n 2) (hs' : c'.size = 2) (h1 : OneCells c') :
    (storeRow 27 (.pointer (some ⟨n, 0, none⟩)) (.agg c')).run Tryz.prog w = .ok () (w.setRow n c') := storeAt_row hg (by kernel_rfl) hs' h1
attribute [go_sem ↓] loadC storeC
attribute [go_sem] run_loadC run_storeC
theorem two_ones (a b : Int) : OneCells #[.int .u64 a, .int .u64 b] := by simp [OneCells, Value.oneCell']
attribute [go_sem] two_ones
theorem results_row_tmp {P : Program} {fn : Func} {p q : Tmp} {ty : TypeId} (h : fn.results = #[.cell p ty, .tmp q]) (tmps : Array Value) (w : World) (g : Nat) (t : TypeId) (cs : Array Value) (fr : Nat × Nat) (d : TypeDesc)
    (hp : tmps.getD p undef = .pointer (some ⟨g, 0, none⟩)) (hg : w.heap[g]? = some (.cells cs t fr))
    (hu : P.underlying ty = some d) (hd : (match d with | .struct _ | .array _ _ => true | _ => false) = true) (hi : (P.info? ty).map (·.size) = some cs.size) :
    (results fn tmps).run P w = .ok (.tuple #[.agg cs, tmps.getD q undef]) w := by
  have hp' : tmps[p]?.getD undef = .pointer (some ⟨g, 0, none⟩) := by simpa using hp
  simp [results, h, hp', asAddr, run_loadVar_row w g t ty cs fr d hg hu hd hi]
theorem count_ret {w : World} {n : Nat} (hr : RowOk w n 2) (a b : Int) : ∃ t, (w.setRow n #[.int .u64 a, .int .u64 b]).heap[n]? = some (.cells #[.int .u64 a, .int .u64 b] t (0, 0)) := by
  obtain ⟨t, hg, _⟩ := hr.heap
  exact ⟨t, setRow_heap _ _ _ _ _ _ hg⟩

/-! ### What a count's number tells -/
def cOk (S : Nat) : Bool := decide (S < 340282366920938463463374607431768211456)
def cHi (S : Nat) : Nat := if S < 340282366920938463463374607431768211456 then S / 18446744073709551616 else 0
def cLo (S : Nat) : Nat := if S < 340282366920938463463374607431768211456 then S % 18446744073709551616 else 0
def cntV (S : Nat) : Value := .tuple #[.agg #[.int .u64 (cHi S : Nat), .int .u64 (cLo S : Nat)], .bool (cOk S)]
theorem cHi_lt (S : Nat) : cHi S < 18446744073709551616 := by unfold cHi; split <;> omega
theorem cLo_lt (S : Nat) : cLo S < 18446744073709551616 := by unfold cLo; split <;> omega
theorem bitI_shift (S a i : Nat) : bitI (S / 2 ^ a) i = bitI S (i + a) := by
  rw [bitI_eq, bitI_eq, Nat.testBit_div_two_pow]
theorem bitI_mod (S a i : Nat) (h : i < a) : bitI (S % 2 ^ a) i = bitI S i := by
  rw [bitI_eq, bitI_eq, Nat.testBit_mod_two_pow, decide_eq_true h, Bool.true_and]
set_option maxRecDepth 100000 in
theorem cofN_any (S : Nat) (hS : S < 87112285931760246646623899502532662132736) (w : World) :
    Calls Tryz.prog 102 #[.agg (arr 136 (bitI S))] w fun e w' => e = .returned (.tuple #[.agg #[.int .u64 (cHi S : Nat), .int .u64 (cLo S : Nat)], .bool (cOk S)]) ∧ Below w.heap.size w w' := by
  refine (cof_any (S / 2 ^ 128) (S / 2 ^ 64 % 2 ^ 64) (S % 2 ^ 64) (by omega) (Nat.mod_lt _ (by omega)) (Nat.mod_lt _ (by omega)) (bitI S)
    (fun i hi => (bitI_mod S 64 i hi).symm) (fun i hi => by rw [bitI_mod _ 64 i hi, bitI_shift]) (fun i hi => (bitI_shift S 128 i).symm) w).mono ?_
  rintro e w' ⟨rfl, hb⟩
  refine ⟨?_, hb⟩
  by_cases h : S < 340282366920938463463374607431768211456
  · have e0 : S / 2 ^ 128 = 0 := Nat.div_eq_of_lt h
    have e1 : S / 2 ^ 64 % 2 ^ 64 = S / 18446744073709551616 := Nat.mod_eq_of_lt (by omega)
    rw [e0, ofC_yes, e1, cHi, cLo, cOk, if_pos h, if_pos h, decide_eq_true h]
  · rw [ofC_no (by omega), cHi, cLo, cOk, if_neg h, if_neg h, decide_eq_false h]; rfl

/-! ### Sums, bit by bit -/
def carryN (x y i : Nat) : Nat := (x % 2 ^ i + y % 2 ^ i) / 2 ^ i
theorem mod_two_succ (v k : Nat) : v % 2 ^ (k + 1) = v % 2 ^ k + v / 2 ^ k % 2 * 2 ^ k := by
  rw [Nat.pow_succ, Nat.mod_mul, Nat.mul_comm (2 ^ k)]
theorem carry_step (x y i : Nat) : (x / 2 ^ i % 2 + y / 2 ^ i % 2 + carryN x y i) / 2 = carryN x y (i + 1) ∧ (x / 2 ^ i % 2 + y / 2 ^ i % 2 + carryN x y i) % 2 = (x + y) / 2 ^ i % 2 := by
  unfold carryN
  rw [mod_two_succ x i, mod_two_succ y i, Nat.pow_succ]
  have hM := Nat.two_pow_pos i
  generalize 2 ^ i = M at *
  have hx := Nat.div_add_mod x M
  have hy := Nat.div_add_mod y M
  have hxm := Nat.mod_lt x hM
  have hym := Nat.mod_lt y hM
  have e : (x + y) / M = x / M + y / M + (x % M + y % M) / M := by
    have h1 : x + y = (x % M + y % M) + M * (x / M + y / M) := by rw [Nat.mul_add]; omega
    rw [h1, Nat.add_mul_div_left _ _ hM]; omega
  rw [e]
  have e2 : (x % M + x / M % 2 * M + (y % M + y / M % 2 * M)) / (M * 2) = ((x % M + y % M) / M + (x / M % 2 + y / M % 2)) / 2 := by
    rw [← Nat.div_div_eq_div_mul]
    congr 1
    have h2 : x % M + x / M % 2 * M + (y % M + y / M % 2 * M) = (x % M + y % M) + M * (x / M % 2 + y / M % 2) := by rw [Nat.mul_add, Nat.mul_comm M, Nat.mul_comm M]; omega
    rw [h2, Nat.add_mul_div_left _ _ hM]
  rw [e2]
  constructor
  · congr 1; omega
  · omega
theorem carry_le (x y i : Nat) : carryN x y i ≤ 1 := by
  unfold carryN
  have hM := Nat.two_pow_pos i
  have hxm := Nat.mod_lt x hM
  have hym := Nat.mod_lt y hM
  generalize 2 ^ i = M at *
  have : (x % M + y % M) / M < 2 := Nat.div_lt_of_lt_mul (by omega)
  omega
theorem bitI_nat (x i : Nat) : bitI x i = ((x / 2 ^ i % 2 : Nat) : Int) := by unfold bitI shr; omega
def addUp (x y k : Nat) : Array Value := arr 136 fun i => if i < k then bitI (x + y) i else bitI x i
theorem addUp_zero (x y : Nat) : addUp x y 0 = arr 136 (bitI x) := arr_congr fun i _ => by rw [if_neg (by omega)]
theorem addUp_full (x y : Nat) : addUp x y 136 = arr 136 (bitI (x + y)) := arr_congr fun i hi => by rw [if_pos hi]
theorem addUp_step (x y k : Nat) (u : Int) (hu : u = bitI (x + y) k) : (addUp x y k).setIfInBounds k (.int .i64 u) = addUp x y (k + 1) :=
  arr_set 136 _ _ k _ (by rw [if_pos (by omega), hu]) fun i _ hn => by by_cases h : i < k <;> simp [h, show i < k + 1 ↔ i < k by omega]
theorem drewN_zero (w : World) : w.drewN 0 = w := rfl
/-! ### Differences, bit by bit -/
def borrowN (x y i : Nat) : Nat := if x % 2 ^ i < y % 2 ^ i then 1 else 0
theorem borrow_le (x y i : Nat) : borrowN x y i ≤ 1 := by unfold borrowN; split <;> omega
theorem borrow_step (x y i : Nat) (hy : y < 2 ^ 128) (hi : i < 128) : x / 2 ^ i % 2 + 2 - y / 2 ^ i % 2 - borrowN x y i < 2 ∧ borrowN x y (i + 1) = 1 ∧ (x + 2 ^ 128 - y) / 2 ^ i % 2 = x / 2 ^ i % 2 + 2 - y / 2 ^ i % 2 - borrowN x y i ∨
    2 ≤ x / 2 ^ i % 2 + 2 - y / 2 ^ i % 2 - borrowN x y i ∧ borrowN x y (i + 1) = 0 ∧ (x + 2 ^ 128 - y) / 2 ^ i % 2 = x / 2 ^ i % 2 + 2 - y / 2 ^ i % 2 - borrowN x y i - 2 := by
  obtain ⟨K, hK⟩ : ∃ K, K = 2 ^ (127 - i) := ⟨_, rfl⟩
  have hp : 2 ^ 128 = 2 ^ i * (2 * K) := by rw [hK, ← Nat.pow_succ', ← Nat.pow_add]; congr 1; omega
  unfold borrowN
  rw [mod_two_succ x i, mod_two_succ y i, hp]
  rw [hp] at hy
  have hM := Nat.two_pow_pos i
  clear hp hK hi
  generalize 2 ^ i = M at *
  have hx := Nat.div_add_mod x M
  have hyd := Nat.div_add_mod y M
  have hxm := Nat.mod_lt x hM
  have hym := Nat.mod_lt y hM
  have hYK : y / M < 2 * K := Nat.div_lt_of_lt_mul hy
  generalize x / M = X at *
  generalize y / M = Y at *
  generalize x % M = xr at *
  generalize y % M = yr at *
  subst hx; subst hyd
  obtain ⟨Z, hZ⟩ : ∃ Z, Z + Y = X + 2 * K := ⟨X + 2 * K - Y, by omega⟩
  have hZ1 : 1 ≤ Z := by omega
  have hZM : M * Z + M * Y = M * X + M * (2 * K) := by rw [← Nat.mul_add, hZ, Nat.mul_add]
  by_cases hlt : xr < yr
  · have e : (M * X + xr + M * (2 * K) - (M * Y + yr)) / M = Z - 1 := by
      have h1 : M * X + xr + M * (2 * K) - (M * Y + yr) = (M + xr - yr) + M * (Z - 1) := by
        have h2 : M * (Z - 1) + M = M * Z := by rw [← Nat.mul_succ]; congr 1; omega
        omega
      rw [h1, Nat.add_mul_div_left _ _ hM, Nat.div_eq_of_lt (by omega), Nat.zero_add]
    rw [e, if_pos hlt]
    rcases Nat.mod_two_eq_zero_or_one X with a | a <;> rcases Nat.mod_two_eq_zero_or_one Y with b | b <;> rw [a, b] <;> simp only [Nat.zero_mul, Nat.one_mul, Nat.add_zero]
    · left; rw [if_pos (by omega)]; omega
    · left; rw [if_pos (by omega)]; omega
    · right; rw [if_neg (by omega)]; omega
    · left; rw [if_pos (by omega)]; omega
  · have e : (M * X + xr + M * (2 * K) - (M * Y + yr)) / M = Z := by
      have h1 : M * X + xr + M * (2 * K) - (M * Y + yr) = (xr - yr) + M * Z := by omega
      rw [h1, Nat.add_mul_div_left _ _ hM, Nat.div_eq_of_lt (by omega), Nat.zero_add]
    rw [e, if_neg hlt]
    rcases Nat.mod_two_eq_zero_or_one X with a | a <;> rcases Nat.mod_two_eq_zero_or_one Y with b | b <;> rw [a, b] <;> simp only [Nat.zero_mul, Nat.one_mul, Nat.add_zero]
    · right; rw [if_neg (by omega)]; omega
    · left; rw [if_pos (by omega)]; omega
    · right; rw [if_neg (by omega)]; omega
    · right; rw [if_neg (by omega)]; omega
def subUp (x y k : Nat) : Array Value := arr 136 fun i => if i < k then bitI (x + 2 ^ 128 - y) i else bitI x i
theorem subUp_zero (x y : Nat) : subUp x y 0 = arr 136 (bitI x) := arr_congr fun i _ => by rw [if_neg (by omega)]
theorem subUp_step (x y k : Nat) (u : Int) (hu : u = bitI (x + 2 ^ 128 - y) k) : (subUp x y k).setIfInBounds k (.int .i64 u) = subUp x y (k + 1) :=
  arr_set 136 _ _ k _ (by rw [if_pos (by omega), hu]) fun i _ hn => by by_cases h : i < k <;> simp [h, show i < k + 1 ↔ i < k by omega]
theorem subUp_full {x y : Nat} (hx : x < 340282366920938463463374607431768211456) (h : y ≤ x) : subUp x y 128 = arr 136 (bitI (x - y)) := arr_congr fun i hi => by
  by_cases h1 : i < 128
  · rw [if_pos h1, ← bitI_mod (x + 2 ^ 128 - y) 128 i h1, show (x + 2 ^ 128 - y) % 2 ^ 128 = x - y by omega]
  · rw [if_neg h1, bitI_eq, bitI_eq, Nat.testBit_lt_two_pow (Nat.lt_of_lt_of_le (show x < 2 ^ 128 from hx) (Nat.pow_le_pow_right (by omega) (by omega))), Nat.testBit_lt_two_pow (Nat.lt_of_lt_of_le (show x - y < 2 ^ 128 by omega) (Nat.pow_le_pow_right (by omega) (by omega)))]
def subC (x y : Nat) : Nat := if y ≤ x then x - y else 340282366920938463463374607431768211456
theorem borrow_end {x y : Nat} (hx : x < 340282366920938463463374607431768211456) (hy : y < 340282366920938463463374607431768211456) : borrowN x y 128 = if y ≤ x then 0 else 1 := by
  unfold borrowN
  rw [Nat.mod_eq_of_lt (show x < 2 ^ 128 from hx), Nat.mod_eq_of_lt (show y < 2 ^ 128 from hy)]
  by_cases h : y ≤ x
  · rw [if_pos h, if_neg (by omega)]
  · rw [if_neg h, if_pos (by omega)]
end Go.Proofs.YtflgnhplbblokaaGreatDoor
end

section
namespace Go.Proofs.YtflgnhplbblokaaGreatDoor
open Go.RowKit
set_option linter.unusedVariables false

def shUp (V k : Nat) : Array Value := arr 136 fun i => if i < k then bitI (8 * V) i else 0
theorem bit8 (V i : Nat) : bitI (8 * V) (i + 3) = bitI V i := by
  rw [bitI_eq, bitI_eq, show 8 * V = 2 ^ 3 * V from rfl, Nat.testBit_two_pow_mul, Nat.add_sub_cancel]; simp
theorem shUp_three (V : Nat) : shUp V 3 = arr 136 fun _ => 0 := arr_congr fun i hi => by
  by_cases h : i < 3
  · rw [if_pos h, bitI_eq, show 8 * V = 2 ^ 3 * V from rfl, Nat.testBit_two_pow_mul, decide_eq_false (by omega)]; rfl
  · rw [if_neg h]
theorem shUp_full (V : Nat) : shUp V 136 = arr 136 (bitI (8 * V)) := arr_congr fun i hi => by rw [if_pos hi]
theorem shUp_step (V k : Nat) (u : Int) (hu : u = bitI V k) : (shUp V (k + 3)).setIfInBounds (k + 3) (.int .i64 u) = shUp V (k + 3 + 1) :=
  arr_set 136 _ _ (k + 3) _ (by rw [if_pos (by omega), hu, bit8]) fun i _ hn => by by_cases h : i < k + 3 <;> simp [h, show i < k + 3 + 1 ↔ i < k + 3 by omega]
set_option maxRecDepth 100000 in
set_option maxHeartbeats 4000000 in
theorem refBits_any (hi lo : Nat) (hh : hi < 18446744073709551616) (hl : lo < 18446744073709551616) (w : World) :
    Calls Tryz.prog 80 #[.agg #[.int .u64 (hi : Int), .int .u64 (lo : Int)]] w fun e w' => e = .returned (.tuple #[.agg #[.int .u64 (cHi (8 * numC hi lo) : Nat), .int .u64 (cLo (8 * numC hi lo) : Nat)], .bool (cOk (8 * numC hi lo))]) ∧ Below w.heap.size w w' := by
  have hV := numC_lt hh hl
  have HCF := Lib.hid (fun W => cofN_any (8 * numC hi lo) (by omega) W)
  have HB1 := Lib.hid (fun W => cbits_any hi lo hh hl W)
  generalize numC hi lo = V at *
  generalize cHi (8 * V) = rh at *
  generalize cLo (8 * V) = rl at *
  generalize cOk (8 * V) = rk at *
  go_enter Tryz.func80, Tryz.ntmps80
  go_wp2_with fail
  refine (HB1.out _).mono ?_
  rintro e w1 ⟨rfl, hb1⟩
  have hz1 := hb1.size
  simp only [World.size_alloc] at hz1 hb1
  have hb0 : Below w.heap.size w ((w.alloc (.cells #[.int .u64 (hi : Int), .int .u64 (lo : Int)] 27)).alloc (.cells #[.int .u64 0, .int .u64 0] 27)) := ((Below.refl _ _).alloc (Nat.le_refl _) _).alloc (by simp) _
  have hrow : RowOk ((w.alloc (.cells #[.int .u64 (hi : Int), .int .u64 (lo : Int)] 27)).alloc (.cells #[.int .u64 0, .int .u64 0] 27)) (w.heap.size + 1) 2 := (RowOk_alloc_at (by simp)).2 rfl
  have hr1 := hrow.below hb1 (by omega)
  have hb := hb0.trans (hb1.mono (by omega))
  clear hb0 hrow hb1
  have HB := Lib.hid hb
  clear hb
  have s1 : (arr 136 (bitI V)).size = 136 := arr_size _ _
  go_wp2
  rw [← shUp_three V]
  go_loopw [6] (fun i wr => ∃ k : Nat, k ≤ 133 ∧ i = .int .i64 ((k : Int) + 3) ∧ wr = (w1.alloc (.cells (arr 136 (bitI V)) 97)).alloc (.cells (shUp V (k + 3)) 97)) (fun i _ => 136 - (intOf i).toNat)
  case atStart => exact ⟨0, by omega, rfl, rfl⟩
  case round =>
    obtain ⟨k, hk, rfl, rfl⟩ := hrel
    by_cases hlt : k < 133
    · have hc1 := arr_at 136 (bitI V) k (by omega)
      have hc2 : (shUp V (k + 3))[k + 3]? = some (.int .i64 _) := arr_at 136 _ (k + 3) (by omega)
      rw [if_neg (by omega)] at hc2
      have HT := Lib.hid (shUp_step V k (bitI V k) rfl)
      clear s1
      go_wp2
      go_roundw
      case rel => exact ⟨k + 1, by omega, by go_num, by rw [show k + 1 + 3 = k + 3 + 1 by omega, ← HT.out]⟩
      case measure => simp [intOf]; omega
    · obtain rfl : k = 133 := by omega
      rw [show 133 + 3 = 136 from rfl, shUp_full V]
      have hbw : Below w1.heap.size w1 ((w1.alloc (.cells (arr 136 (bitI V)) 97)).alloc (.cells (arr 136 (bitI (8 * V))) 97)) := ((Below.refl _ _).alloc (Nat.le_refl _) _).alloc (by simp) _
      have hrw := hr1.below hbw (by omega)
      have hB3 := HB.out.trans (hbw.mono HB.out.size)
      have hsz3 := hbw.size
      go_wp2_with fail
      refine (HCF.out _).mono ?_
      rintro e w3 ⟨rfl, hb3⟩
      have hr3 := hrw.below hb3 (by omega)
      have HB3 := Lib.hid (hB3.trans (hb3.mono (by omega)))
      clear hbw hrw hB3 hb3 hr1 HB
      obtain ⟨tt, hfin⟩ := count_ret hr3 (rh : Nat) (rl : Nat)
      have HF := Lib.hid hfin
      clear hfin
      go_wp2
      exact bodyPost_ret (results_row_tmp (p := 2) (q := 3) rfl _ _ (w.heap.size + 1) tt _ (0, 0) _ rfl HF.out Tryz.underlying27 rfl (by kernel_rfl)) rfl ⟨rfl, below_setRow HB3.out (by omega) _⟩
def modC (V : Nat) (m : Int) : Int := if 1 ≤ m ∧ m ≤ 2147483647 then (V : Int) % m else 0
theorem mod_step (V j m : Nat) (hm : 0 < m) : (2 * (V / 2 ^ (j + 1) % m) + V / 2 ^ j % 2) % m = V / 2 ^ j % m := by
  have h : V / 2 ^ j = 2 * (V / 2 ^ (j + 1)) + V / 2 ^ j % 2 := by rw [Nat.pow_succ, ← Nat.div_div_eq_div_mul]; omega
  rw [Nat.add_mod, Nat.mul_mod_mod, ← Nat.add_mod, ← h]
set_option maxRecDepth 100000 in
set_option maxHeartbeats 4000000 in
theorem refMod_any (hi lo : Nat) (hh : hi < 18446744073709551616) (hl : lo < 18446744073709551616) (m : Int) (h0 : -9223372036854775808 ≤ m) (h1 : m ≤ 9223372036854775807) (w : World) :
    Calls Tryz.prog 29 #[.agg #[.int .u64 (hi : Int), .int .u64 (lo : Int)], .int .i64 m] w fun e w' => e = .returned (.int .i64 (modC (numC hi lo) m)) ∧ Below w.heap.size w w' := by
  have hV := numC_lt hh hl
  have HB1 := Lib.hid (fun W => cbits_any hi lo hh hl W)
  generalize numC hi lo = V at *
  by_cases hlo : m < 1
  · have HO : Hid (modC V m = 0) := if_neg (by omega)
    go_enter Tryz.func29, Tryz.ntmps29
    go_wp2
    go_ret
    exact ⟨ret_int HO.out.symm, (Below.refl _ _).alloc (Nat.le_refl _) _⟩
  · by_cases hgt : 2147483647 < m
    · have HO : Hid (modC V m = 0) := if_neg (by omega)
      go_enter Tryz.func29, Tryz.ntmps29
      go_wp2
      go_ret
      exact ⟨ret_int HO.out.symm, (Below.refl _ _).alloc (Nat.le_refl _) _⟩
    · obtain ⟨k, rfl⟩ := Int.eq_ofNat_of_zero_le (show 0 ≤ m by omega)
      have hk1 : 1 ≤ k := by omega
      have hk2 : k ≤ 2147483647 := by omega
      have HO : Hid (modC V k = (V % k : Nat)) := by unfold Hid modC; rw [if_pos (by omega)]; simp
      clear hlo hgt h0 h1
      go_enter Tryz.func29, Tryz.ntmps29
      go_wp2_with fail
      refine (HB1.out _).mono ?_
      rintro e w1 ⟨rfl, hb1⟩
      have HB := Lib.hid (((Below.refl w.heap.size w).alloc (Nat.le_refl _) (.cells #[.int .u64 (hi : Int), .int .u64 (lo : Int)] 27)).trans (hb1.mono (by simp)))
      clear hb1
      go_wp2
      go_loop [6, 7] (fun n i => ∃ j : Nat, j ≤ 128 ∧ i = .int .i64 ((j : Int) - 1) ∧ n = .int .i64 (V / 2 ^ j % k : Nat)) (fun _ i => (intOf i + 1).toNat)
      case atStart => exact ⟨128, by omega, rfl, by rw [Nat.div_eq_of_lt (show V < 2 ^ 128 from hV)]; simp⟩
      case round =>
        obtain ⟨j, hj, rfl, rfl⟩ := hrel
        rcases j with _ | j
        · have e0 : V / 2 ^ 0 % k = V % k := by simp
          rw [e0]
          clear e0
          go_wp2
          go_ret
          exact ⟨ret_int HO.out.symm, HB.out.alloc HB.out.size _⟩
        · have hc1 := arr_at 136 (bitI V) j (by omega)
          have HS := Lib.hid (mod_step V j k (by omega))
          have hn : V / 2 ^ (j + 1) % k < k := Nat.mod_lt _ (by omega)
          have r1 := bitI_range V j
          have HB2 := Lib.hid (bitI_nat V j)
          generalize V / 2 ^ (j + 1) % k = n at *
          generalize bitI V j = p at *
          go_wp2
          go_round
          case rel => exact ⟨j, by omega, by go_num, by rw [← HS.out, HB2.out]; go_num⟩
          case measure => simp [intOf]
def fitsB (V : Nat) (size : Int) : Bool := decide (size = 64 ∧ 8 * V < 18446744073709551616 ∨ size = 128 ∧ 8 * V < 340282366920938463463374607431768211456)
theorem fits_64 (V : Nat) : fitsB V 64 = (cOk (8 * V) && ((cHi (8 * V) : Int) == 0)) := by
  unfold fitsB cOk cHi
  by_cases h : 8 * V < 340282366920938463463374607431768211456
  · rw [if_pos h, decide_eq_true h, Bool.true_and, Bool.eq_iff_iff, decide_eq_true_eq, beq_iff_eq]; omega
  · rw [if_neg h, decide_eq_false h, Bool.false_and, decide_eq_false]; omega
theorem fits_else (V : Nat) {m : Int} (h64 : m ≠ 64) : fitsB V m = (m == 128 && cOk (8 * V)) := by
  unfold fitsB cOk
  rw [Bool.eq_iff_iff, decide_eq_true_eq, Bool.and_eq_true, beq_iff_eq, decide_eq_true_eq]; omega
set_option maxRecDepth 100000 in
set_option maxHeartbeats 4000000 in
theorem refFits_any (hi lo : Nat) (hh : hi < 18446744073709551616) (hl : lo < 18446744073709551616) (m : Int) (w : World) :
    Calls Tryz.prog 44 #[.agg #[.int .u64 (hi : Int), .int .u64 (lo : Int)], .int .i64 m] w fun e w' => e = .returned (.bool (fitsB (numC hi lo) m)) ∧ Below w.heap.size w w' := by
  have HB1 := Lib.hid (fun W => refBits_any hi lo hh hl W)
  generalize numC hi lo = V at *
  by_cases h64 : m = 64
  · subst h64
    have HO := Lib.hid (fits_64 V)
    have hlt := cHi_lt (8 * V)
    generalize fitsB V 64 = fb at *
    generalize cHi (8 * V) = rh at *
    generalize cLo (8 * V) = rl at *
    generalize cOk (8 * V) = rk at *
    cases rk with
    | true =>
      rw [Bool.true_and] at HO
      go_enter Tryz.func44, Tryz.ntmps44
      go_wp2_with fail
      refine (HB1.out _).mono ?_
      rintro e w1 ⟨rfl, hb1⟩
      have HB := Lib.hid (((Below.refl w.heap.size w).alloc (Nat.le_refl _) (.cells #[.int .u64 (hi : Int), .int .u64 (lo : Int)] 27)).trans (hb1.mono (by simp)))
      clear hb1
      go_wp2
      go_ret
      refine ⟨?_, HB.out.alloc HB.out.size _⟩
      rw [HO.out]
      rfl
    | false =>
      rw [Bool.false_and] at HO
      go_enter Tryz.func44, Tryz.ntmps44
      go_wp2_with fail
      refine (HB1.out _).mono ?_
      rintro e w1 ⟨rfl, hb1⟩
      have HB := Lib.hid (((Below.refl w.heap.size w).alloc (Nat.le_refl _) (.cells #[.int .u64 (hi : Int), .int .u64 (lo : Int)] 27)).trans (hb1.mono (by simp)))
      clear hb1
      go_wp2
      go_ret
      refine ⟨?_, HB.out.alloc HB.out.size _⟩
      rw [HO.out]
      rfl
  · have e64 : (m == 64) = false := by simp [h64]
    have HO := Lib.hid (fits_else V h64)
    generalize fitsB V m = fb at *
    generalize cHi (8 * V) = rh at *
    generalize cLo (8 * V) = rl at *
    generalize cOk (8 * V) = rk at *
    clear h64
    by_cases h128 : m = 128
    · subst h128
      go_enter Tryz.func44, Tryz.ntmps44
      go_wp2_with fail
      refine (HB1.out _).mono ?_
      rintro e w1 ⟨rfl, hb1⟩
      have HB := Lib.hid (((Below.refl w.heap.size w).alloc (Nat.le_refl _) (.cells #[.int .u64 (hi : Int), .int .u64 (lo : Int)] 27)).trans (hb1.mono (by simp)))
      clear hb1
      go_wp2
      go_ret
      refine ⟨?_, HB.out.alloc HB.out.size _⟩
      rw [HO.out]
      cases rk <;> rfl
    · have e128 : (m == 128) = false := by simp [h128]
      rw [e128] at HO
      go_enter Tryz.func44, Tryz.ntmps44
      go_wp2_with fail
      refine (HB1.out _).mono ?_
      rintro e w1 ⟨rfl, hb1⟩
      have HB := Lib.hid (((Below.refl w.heap.size w).alloc (Nat.le_refl _) (.cells #[.int .u64 (hi : Int), .int .u64 (lo : Int)] 27)).trans (hb1.mono (by simp)))
      clear hb1
      go_wp2
      go_ret
      refine ⟨?_, HB.out.alloc HB.out.size _⟩
      rw [HO.out]
      rfl
end Go.Proofs.YtflgnhplbblokaaGreatDoor
end

section
namespace Go.Proofs.YtflgnhplbblokaaGreatDoor
open Go.RowKit
set_option linter.unusedVariables false
theorem len8tab_int : (Lib.len8tab.size : Int) = 256 := by rw [Lib.len8tab_size]; rfl
attribute [local go_sem] len8tab_int
theorem len8_at (i : Int) (h0 : 0 ≤ i) (h1 : i ≤ 255) (h : i.toNat < Lib.len8tab.size) : (Lib.len8tab[i.toNat].toNat : Int) = Lib.bitLen i.toNat := by
  rw [← Lib.len8_of i h0 h1, Lib.len8, ByteArray.getElem?_lt' _ _ h]; rfl
theorem len8_wrap (a i : Int) (h0 : 0 ≤ i) (h1 : i ≤ 255) (h : i.toNat < Lib.len8tab.size) (ha0 : 0 ≤ a) (ha : a ≤ 24) : wrap64 (a + wrap64 (Lib.len8tab[i.toNat].toNat : Int)) = a + Lib.bitLen i.toNat := by
  have hb := Lib.bitLen_le8' i h0 h1
  rw [len8_at i h0 h1 h]; unfold wrap64; omega
set_option maxHeartbeats 4000000 in
set_option maxRecDepth 100000 in
theorem len64_any (x : Nat) (h1 : x < 4294967296) (w : World) :
    Calls Tryz.prog 131 #[.int .u64 (x : Int)] w fun e w' => e = .returned (.int .i64 (Lib.bitLen x)) ∧ w = w' := by
  obtain ⟨X, hX⟩ : ∃ X : Int, X = x := ⟨_, rfl⟩
  rw [← hX, show x = X.toNat by omega]
  have h0 : 0 ≤ X := by omega
  have h2 : X < 4294967296 := by omega
  clear hX h1
  go_enter Tryz.func131, Tryz.ntmps131
  go_wp2
  all_goals (go_ret; refine ⟨congrArg Ending.returned (congrArg (Value.int IntKind.i64) ?_), rfl⟩)
  · rw [len8_wrap 24 _ (by omega) (by omega) _ (by omega) (by omega), show (X / 65536 / 256).toNat = X.toNat / 16777216 by omega, Lib.bitLen_shift24 X.toNat (by omega) (by omega)]; omega
  · rw [len8_wrap 16 _ (by omega) (by omega) _ (by omega) (by omega), show (X / 65536).toNat = X.toNat / 65536 by omega, Lib.bitLen_shift16 X.toNat (by omega) (by omega)]; omega
  · rw [len8_wrap 8 _ (by omega) (by omega) _ (by omega) (by omega), show (X / 256).toNat = X.toNat / 256 by omega, Lib.bitLen_shift8 X.toNat (by omega) (by omega)]; omega
  · have h := len8_wrap 0 X (by omega) (by omega) (by rw [Lib.len8tab_size]; omega) (by omega) (by omega)
    rw [Int.zero_add] at h
    rw [h]; omega
theorem leading_any (x : Nat) (h1 : x < 4294967296) (w : World) :
    Calls Tryz.prog 125 #[.int .u64 (x : Int)] w fun e w' => e = .returned (.int .i64 (64 - Lib.bitLen x)) ∧ w = w' := by
  have hb : Lib.bitLen x ≤ 32 := Lib.bitLen_le x 32 (by omega) h1
  have HL := Lib.hid (len64_any x h1)
  generalize Lib.bitLen x = b at *
  go_enter Tryz.func125, Tryz.ntmps125
  go_wp2_with (go_at_call 131; refine (HL.out _).mono ?_; rintro e w' ⟨rfl, rfl⟩)
  go_ret
  exact ⟨rfl, rfl⟩
theorem up_math {hi lo y s : Nat} (hs : s < 64) (hs0 : 33 ≤ s) (hY : y * 2 ^ s < 18446744073709551616) (hh : hi < y) (hl : lo < 18446744073709551616) :
    ∃ a L d : Nat, a < y * 2 ^ s ∧ L < 18446744073709551616 ∧ (hi * 18446744073709551616 + lo) * 2 ^ s = a * 18446744073709551616 + L ∧ y * 2 ^ s = d * 4294967296 ∧
      bits BinOp.or .u64 (IntKind.u64.wrap ((hi : Int) * 2 ^ s)) ((lo : Int) / 2 ^ (64 - s)) = (a : Int) ∧ IntKind.u64.wrap ((lo : Int) * 2 ^ s) = (L : Int) := by
  obtain ⟨M, hM⟩ : ∃ M, M = 2 ^ (64 - s) := ⟨_, rfl⟩
  have hPM : 2 ^ s * M = 18446744073709551616 := by rw [hM, ← Nat.pow_add, show s + (64 - s) = 64 by omega]
  have hP : 2 ^ s = 2 ^ (s - 32) * 4294967296 := by rw [show (4294967296 : Nat) = 2 ^ 32 from rfl, ← Nat.pow_add]; congr 1; omega
  have hM0 : 0 < M := hM ▸ Nat.two_pow_pos _
  have hP0 : 0 < 2 ^ s := Nat.two_pow_pos _
  have hdiv : lo / M < 2 ^ s := by rw [Nat.div_lt_iff_lt_mul hM0, hPM]; exact hl
  have hlo : lo * 2 ^ s = lo / M * 18446744073709551616 + lo % M * 2 ^ s := by
    rw [← hPM, Nat.mul_comm (2 ^ s) M, ← Nat.mul_assoc, ← Nat.add_mul, Nat.mul_comm (lo / M), Nat.div_add_mod]
  have hmod : lo % M * 2 ^ s < 18446744073709551616 := by
    rw [← hPM, Nat.mul_comm (2 ^ s)]; exact Nat.mul_lt_mul_of_pos_right (Nat.mod_lt _ hM0) hP0
  have hhi : (hi + 1) * 2 ^ s ≤ y * 2 ^ s := Nat.mul_le_mul_right _ hh
  rw [Nat.add_mul, Nat.one_mul] at hhi
  refine ⟨hi * 2 ^ s + lo / M, lo % M * 2 ^ s, y * 2 ^ (s - 32), by omega, hmod, ?_, ?_, ?_, ?_⟩
  · rw [Nat.add_mul, hlo, Nat.mul_right_comm, Nat.add_mul]; omega
  · rw [Nat.mul_assoc, ← hP]
  · have e1 : IntKind.u64.wrap ((hi : Int) * 2 ^ s) = ((hi * 2 ^ s : Nat) : Int) := by
      rw [IntKind.wrap_u64, Int.natCast_mul, Int.natCast_pow, Int.emod_eq_of_lt]
      · rfl
      · exact Int.mul_nonneg (by omega) (Int.le_of_lt (Int.pow_pos (by omega)))
      · have : ((hi * 2 ^ s : Nat) : Int) < 18446744073709551616 := by omega
        rw [Int.natCast_mul, Int.natCast_pow] at this; exact this
    have e2 : (lo : Int) / 2 ^ (64 - s) = ((lo / M : Nat) : Int) := by rw [hM, Int.natCast_ediv, Int.natCast_pow]; rfl
    rw [e1, e2, u64_or_nat _ _ (by omega) (by omega), Nat.mul_comm hi, ← Nat.two_pow_add_eq_or_of_lt hdiv]
  · rw [IntKind.wrap_u64, show (lo : Int) * 2 ^ s = ((lo * 2 ^ s : Nat) : Int) by rw [Int.natCast_mul, Int.natCast_pow]; rfl, hlo]
    omega
theorem mod_digits (X r d B : Nat) (hr : r < B) : (X * B + r) % (d * B) = X % d * B + r := by
  rw [Nat.mul_comm d B, Nat.mod_mul, Nat.mul_comm X B, Nat.mul_add_mod, Nat.mod_eq_of_lt hr, Nat.mul_add_div (by omega), Nat.div_eq_of_lt hr, Nat.add_zero, Nat.mul_comm B, Nat.add_comm]
theorem long_of (B y P a u1 u0 d V : Nat) (hP : 0 < P) (hu : u0 < B) (hd : y * P = d * B) (hV : V * P = (a * B + u1) * B + u0) :
    ((a % d * B + u1) % d * B + u0) / P = V % y := by
  have h1 : V % y = V * P % (y * P) / P := by rw [Nat.mul_mod_mul_right, Nat.mul_div_cancel _ hP]
  rw [h1, hV, hd, mod_digits _ _ _ _ hu]
  congr 3
  rw [Nat.add_mod, Nat.mod_mul_mod, ← Nat.add_mod]
theorem long_math {y s a L d V : Nat} (hd : y * 2 ^ s = d * 4294967296) (hV : V * 2 ^ s = a * 18446744073709551616 + L) :
    ((a % d * 4294967296 + L / 4294967296) % d * 4294967296 + L % 4294967296) / 2 ^ s = V % y :=
  long_of 4294967296 y (2 ^ s) a (L / 4294967296) (L % 4294967296) d V (Nat.two_pow_pos s) (Nat.mod_lt _ (by omega)) hd (by rw [hV]; omega)
theorem bitLen_up : ∀ y : Nat, y < 2 ^ 64 → y < 2 ^ Lib.bitLen y := fun y => by
  induction y using Nat.strongRecOn with
  | _ y ih =>
    intro h
    by_cases h0 : y = 0
    · subst h0; exact Nat.two_pow_pos _
    · have h1 := ih (y / 2) (by omega) (by omega)
      rw [Lib.bitLen_half y h0 h, Nat.pow_add]
      omega
theorem up_by (y : Nat) (h0 : 0 < y) (hy : y < 2147483648) : ∃ s : Nat, (64 : Int) - Lib.bitLen y = s ∧ 33 ≤ s ∧ s < 64 ∧ y * 2 ^ s < 18446744073709551616 := by
  have h1 : Lib.bitLen y ≤ 31 := Lib.bitLen_le y 31 (by omega) hy
  have h2 := Lib.bitLen_half y (by omega) (Nat.lt_trans hy (by decide))
  have h3 := bitLen_up y (Nat.lt_trans hy (by decide))
  refine ⟨64 - Lib.bitLen y, by omega, by omega, by omega, ?_⟩
  have h4 : 2 ^ Lib.bitLen y * 2 ^ (64 - Lib.bitLen y) = 18446744073709551616 := by rw [← Nat.pow_add, show Lib.bitLen y + (64 - Lib.bitLen y) = 64 by omega]
  rw [← h4]
  exact Nat.mul_lt_mul_of_pos_right h3 (Nat.two_pow_pos _)
theorem wrap_nat (x : Nat) (h : x < 18446744073709551616) : IntKind.u64.wrap (x : Int) = x := by rw [IntKind.wrap_u64]; omega
theorem digit_math {a d : Nat} (h0 : 0 < d) (hd : d < 4294967296) (ha : a < d * 4294967296) :
    IntKind.u64.wrap ((a : Int) / (d : Int)) = ((a / d : Nat) : Int) ∧ IntKind.u64.wrap ((a : Int) - IntKind.u64.wrap (((a / d : Nat) : Int) * (d : Int))) = ((a % d : Nat) : Int) ∧ a / d < 4294967296 ∧ a % d < 4294967296 := by
  have h1 : a / d < 4294967296 := by rw [Nat.div_lt_iff_lt_mul h0, Nat.mul_comm]; exact ha
  have h2 := Nat.div_add_mod a d
  have h3 := Nat.mod_lt a h0
  have h4 : d * 4294967296 < 18446744073709551616 := by omega
  have e : ((a / d : Nat) : Int) * (d : Int) = ((d * (a / d) : Nat) : Int) := by rw [Nat.mul_comm, Int.natCast_mul]
  refine ⟨?_, ?_, h1, by omega⟩
  · rw [← Int.natCast_ediv, wrap_nat _ (by omega)]
  · rw [e, wrap_nat _ (by omega), IntKind.wrap_u64]; omega
theorem wraps (a z r u B M : Int) (ha : a = z + r) (h0 : 0 ≤ r * B + u) (h1 : r * B + u < M) : ((a * B % M + u) % M - z * B % M) % M = r * B + u := by
  rw [Int.emod_add_emod, Int.emod_sub_emod, Int.sub_emod, Int.emod_emod, ← Int.sub_emod, ha, Int.add_mul, show z * B + r * B + u - z * B = r * B + u by omega, Int.emod_eq_of_lt h0 h1]
theorem left_lt {r d u B : Nat} (h : r < d) (hu : u < B) : r * B + u < d * B := by
  have := Nat.mul_le_mul_right B h
  rw [Nat.succ_mul] at this
  omega
theorem left_math {a d u : Nat} (h0 : 0 < d) (hd : d * 4294967296 < 18446744073709551616) (hu : u < 4294967296) :
    IntKind.u64.wrap (IntKind.u64.wrap (IntKind.u64.wrap ((a : Int) * 4294967296) + (u : Int)) - IntKind.u64.wrap (((a / d : Nat) : Int) * ((d * 4294967296 : Nat) : Int))) = ((a % d * 4294967296 + u : Nat) : Int) ∧ a % d * 4294967296 + u < d * 4294967296 := by
  have h3 := left_lt (Nat.mod_lt a h0) hu
  refine ⟨?_, h3⟩
  have h2 : (a : Int) = ((d * (a / d) : Nat) : Int) + ((a % d : Nat) : Int) := by rw [← Int.natCast_add, Nat.div_add_mod]
  have e : ((a / d : Nat) : Int) * ((d * 4294967296 : Nat) : Int) = ((d * (a / d) : Nat) : Int) * 4294967296 := by rw [Int.natCast_mul, Int.natCast_mul, ← Int.mul_assoc, Int.mul_comm ((a / d : Nat) : Int)]; rfl
  rw [e, IntKind.wrap_u64, IntKind.wrap_u64, IntKind.wrap_u64, IntKind.wrap_u64, wraps _ _ _ _ _ _ h2 (by omega) (by omega)]
  omega
theorem next_math {r u : Nat} (hr : r < 4294967296) (hu : u < 4294967296) : IntKind.u64.wrap (IntKind.u64.wrap (4294967296 * (r : Int)) + (u : Int)) = ((r * 4294967296 + u : Nat) : Int) := by
  rw [show (4294967296 : Int) * (r : Int) = ((r * 4294967296 : Nat) : Int) by omega, wrap_nat _ (by omega), ← Int.natCast_add, wrap_nat _ (by omega)]
theorem low_and {x : Nat} (hx : x < 18446744073709551616) : bits BinOp.and IntKind.u64 (x : Int) 4294967295 = ((x % 4294967296 : Nat) : Int) := by
  have h := u64_and_nat x 4294967295 hx (by omega)
  rw [show (4294967295 : Nat) = 2 ^ 32 - 1 from rfl, Nat.and_two_pow_sub_one_eq_mod] at h
  exact h
theorem div_facts {hi lo y : Nat} (hy0 : 0 < y) (hy : y < 2147483648) (hh : hi < y) (hl : lo < 18446744073709551616) : ∃ s a L d Y q1 r1 b q0 r0 c u1 u0 : Nat,
    ((64 : Int) - Lib.bitLen y = s ∧ s < 64 ∧ 0 < d ∧ d < 4294967296 ∧ L < 18446744073709551616 ∧ a < 18446744073709551616 ∧ Y < 18446744073709551616 ∧ b < 18446744073709551616 ∧ c < 18446744073709551616 ∧ q1 < 4294967296 ∧ q0 < 4294967296 ∧ u1 < 4294967296 ∧ u0 < 4294967296) ∧
    IntKind.u64.wrap ((y : Int) * 2 ^ s) = (Y : Int) ∧ (Y : Int) / 4294967296 = (d : Int) ∧ bits BinOp.and IntKind.u64 (Y : Int) 4294967295 = 0 ∧
    bits BinOp.or .u64 (IntKind.u64.wrap ((hi : Int) * 2 ^ s)) ((lo : Int) / 2 ^ (64 - s)) = (a : Int) ∧ IntKind.u64.wrap ((lo : Int) * 2 ^ s) = (L : Int) ∧
    (L : Int) / 4294967296 = (u1 : Int) ∧ bits BinOp.and IntKind.u64 (L : Int) 4294967295 = (u0 : Int) ∧
    IntKind.u64.wrap ((a : Int) / (d : Int)) = (q1 : Int) ∧ IntKind.u64.wrap ((a : Int) - IntKind.u64.wrap ((q1 : Int) * (d : Int))) = (r1 : Int) ∧
    IntKind.u64.wrap (IntKind.u64.wrap (4294967296 * (r1 : Int)) + (u1 : Int)) = (b : Int) ∧
    IntKind.u64.wrap (IntKind.u64.wrap (IntKind.u64.wrap ((a : Int) * 4294967296) + (u1 : Int)) - IntKind.u64.wrap ((q1 : Int) * (Y : Int))) = (b : Int) ∧
    IntKind.u64.wrap ((b : Int) / (d : Int)) = (q0 : Int) ∧ IntKind.u64.wrap ((b : Int) - IntKind.u64.wrap ((q0 : Int) * (d : Int))) = (r0 : Int) ∧
    IntKind.u64.wrap (IntKind.u64.wrap (4294967296 * (r0 : Int)) + (u0 : Int)) = (c : Int) ∧
    IntKind.u64.wrap (IntKind.u64.wrap (IntKind.u64.wrap ((b : Int) * 4294967296) + (u0 : Int)) - IntKind.u64.wrap ((q0 : Int) * (Y : Int))) = (c : Int) ∧
    (c : Int) / 2 ^ s = ((numC hi lo % y : Nat) : Int) := by
  obtain ⟨s, hs, hs1, hs2, hY⟩ := up_by y hy0 hy
  obtain ⟨a, L, d, ha, hL, hV, hd, E4, E5⟩ := up_math hs2 hs1 hY hh hl
  have HM := long_math hd hV
  have hd0 : 0 < d := by
    have := Nat.mul_pos hy0 (Nat.two_pow_pos s)
    omega
  have hd2 : d * 4294967296 < 18446744073709551616 := by omega
  have hd1 : d < 4294967296 := by omega
  have ha2 : a < d * 4294967296 := by omega
  have hu1 : L / 4294967296 < 4294967296 := by omega
  have hu0 : L % 4294967296 < 4294967296 := by omega
  obtain ⟨E8, E9, q1b, r1b⟩ := digit_math hd0 hd1 ha2
  obtain ⟨E11, hb⟩ := left_math (a := a) hd0 hd2 hu1
  obtain ⟨E12, E13, q0b, r0b⟩ := digit_math hd0 hd1 hb
  obtain ⟨E15, hc⟩ := left_math (a := a % d * 4294967296 + L / 4294967296) hd0 hd2 hu0
  refine ⟨s, a, L, d, d * 4294967296, _, _, _, _, _, _, _, _, ⟨hs, hs2, hd0, hd1, hL, by omega, hd2, Nat.lt_trans hb hd2, Nat.lt_trans hc hd2, q1b, q0b, hu1, hu0⟩, ?_, ?_, ?_, E4, E5, ?_, low_and hL, E8, E9, next_math r1b hu1, E11, E12, E13, next_math r0b hu0, E15, ?_⟩
  · rw [show (y : Int) * 2 ^ s = ((y * 2 ^ s : Nat) : Int) by rw [Int.natCast_mul, Int.natCast_pow]; rfl, hd, wrap_nat _ hd2]
  · clear E8 E9 E11 E12 E13 E15 E4 E5; omega
  · rw [low_and hd2, Nat.mul_mod_left]; rfl
  · clear E8 E9 E11 E12 E13 E15 E4 E5; omega
  · unfold numC; rw [← HM, Int.natCast_ediv, Int.natCast_pow]; rfl
set_option maxHeartbeats 4000000 in
set_option maxRecDepth 100000 in
theorem div64_any (hi lo y : Nat) (hy0 : 0 < y) (hy : y < 2147483648) (hh : hi < y) (hl : lo < 18446744073709551616) (w : World) :
    Calls Tryz.prog 107 #[.int .u64 (hi : Int), .int .u64 (lo : Int), .int .u64 (y : Int)] w fun e w' => (∃ q : Int, e = .returned (.tuple #[.int .u64 q, .int .u64 ((numC hi lo % y : Nat) : Int)])) ∧ ∃ m, w' = w.drewN m := by
  have HL := Lib.hid (leading_any y (by omega))
  have hy1 : ((y : Int) == 0) = false := by rw [beq_eq_false_iff_ne]; omega
  by_cases h0 : hi = 0
  · subst h0
    have hV : numC 0 lo = lo := by simp [numC]
    rw [hV, Int.natCast_zero]
    clear hh hV HL
    go_enter Tryz.func107, Tryz.ntmps107
    go_wp2
    go_region
    go_wp2
    refine bodyPost_ret (v := .tuple #[.int .u64 (IntKind.u64.wrap ((lo : Int) / (y : Int))), .int .u64 ((lo % y : Nat) : Int)]) (by simp [results, Tryz.results107, go_sem]) rfl ⟨⟨_, rfl⟩, 1, rfl⟩
  · obtain ⟨s, a, L, d, Y, q1, r1, b, q0, r0, c, u1, u0, ⟨hs, hs2, hd0, hd1, hL, ha, hY, hb, hc, q1b, q0b, hu1, hu0⟩, E1, E2, E3, E4, E5, E6, E7, E8, E9, E10, E11, E12, E13, E14, E15, HM⟩ := div_facts hy0 hy hh hl
    rw [hs] at HL
    rw [← HM]
    have hhi : ((hi : Int) == 0) = false := by rw [beq_eq_false_iff_ne]; omega
    clear hs HM
    go_enter Tryz.func107, Tryz.ntmps107
    go_wp2_with (go_at_call 125; refine (HL.out _).mono ?_; rintro e w' ⟨rfl, rfl⟩)
    go_loop [15, 16] (fun p r => p = .int .u64 (q1 : Int) ∧ r = .int .u64 (r1 : Int)) (fun _ _ => 0)
    case atStart => exact ⟨rfl, rfl⟩
    case round =>
      obtain ⟨rfl, rfl⟩ := hrel
      clear E1 E2 E3 E4 E5 E6 E7 E8 E9
      have c1 : decide ((4294967296 : Int) ≤ (q1 : Int)) = false := decide_eq_false (by omega)
      have c2 : decide ((b : Int) < 0) = false := decide_eq_false (by omega)
      clear q1b
      go_wp2
      go_loop [16, 18] (fun r p => p = .int .u64 (q0 : Int) ∧ r = .int .u64 (r0 : Int)) (fun _ _ => 0)
      case atStart => exact ⟨rfl, rfl⟩
      case round =>
        obtain ⟨rfl, rfl⟩ := hrel
        clear E10 E11 E12 E13
        have c3 : decide ((4294967296 : Int) ≤ (q0 : Int)) = false := decide_eq_false (by omega)
        have c4 : decide ((c : Int) < 0) = false := decide_eq_false (by omega)
        clear q0b
        go_wp2
        refine bodyPost_ret (v := .tuple #[.int .u64 (IntKind.u64.wrap (IntKind.u64.wrap ((q1 : Int) * 4294967296) + (q0 : Int))), .int .u64 ((c : Int) / 2 ^ s)]) (by simp [results, Tryz.results107, go_sem]) rfl ⟨⟨_, rfl⟩, 0, rfl⟩
theorem rem_top (hi lo y : Nat) : numC (hi % y) lo % y = numC hi lo % y := by unfold numC; rw [Nat.add_mod, Nat.mod_mul_mod, ← Nat.add_mod]
set_option maxHeartbeats 1000000 in
theorem rem64_any (hi lo y : Nat) (hy0 : 0 < y) (hy : y < 2147483648) (hh : hi < 18446744073709551616) (hl : lo < 18446744073709551616) (w : World) :
    Calls Tryz.prog 85 #[.int .u64 (hi : Int), .int .u64 (lo : Int), .int .u64 (y : Int)] w fun e w' => e = .returned (.int .u64 ((numC hi lo % y : Nat) : Int)) ∧ ∃ m, w' = w.drewN m := by
  have HD := Lib.hid (div64_any (hi % y) lo y hy0 hy (Nat.mod_lt _ hy0) hl)
  rw [rem_top] at HD
  have E1 : (hi : Int) % (y : Int) = ((hi % y : Nat) : Int) := rfl
  have hv : numC hi lo % y < y := Nat.mod_lt _ hy0
  have hq : hi % y < y := Nat.mod_lt _ hy0
  have hy1 : ((y : Int) == 0) = false := by rw [beq_eq_false_iff_ne]; omega
  generalize numC hi lo % y = v at *
  generalize hi % y = h at *
  go_enter Tryz.func85, Tryz.ntmps85
  go_wp2_with (go_at_call 107; refine (HD.out _).mono ?_; rintro e w1 ⟨⟨q, rfl⟩, m, rfl⟩)
  go_wp2
  go_ret
  exact ⟨rfl, m, rfl⟩
end Go.Proofs.YtflgnhplbblokaaGreatDoor
end

section
namespace Go.Proofs.YtflgnhplbblokaaGreatDoor
open Go.RowKit
set_option linter.unusedVariables false

def subEntry : Array Value → Sem Value := fun args => do
  let (x, y, b) ← Extern.MathBitsCarry.three "Sub64" args
  pure (Extern.MathBitsCarry.pair ((x + Extern.MathBitsCarry.m64 - y - b) % Extern.MathBitsCarry.m64) (if x < y + b then 1 else 0))
def bor (x y b : Nat) : Nat := if x < y + b then 1 else 0

/-! ### What is kept -/
def keepN (b : Bool) (x : Nat) : Nat := bif b then x else 0
theorem ends_count {w : World} (a b : Int) : ((w.alloc (.cells #[.int .u64 a, .int .u64 b] 27)) : World).heap[w.heap.size]? = some (.cells #[.int .u64 a, .int .u64 b] 27 (0, 0)) := heap_alloc_new _ _
set_option maxHeartbeats 1000000 in
theorem onlyIf_any (b : Bool) (x y : Nat) (hx : x < 18446744073709551616) (hy : y < 18446744073709551616) (w : World) :
    Calls Tryz.prog 157 #[.bool b, .agg #[.int .u64 (x : Int), .int .u64 (y : Int)]] w fun e w' => e = .returned (.tuple #[.agg #[.int .u64 (keepN b x : Nat), .int .u64 (keepN b y : Nat)], .bool b]) ∧ Below w.heap.size w w' := by
  cases b
  · go_enter Tryz.func157, Tryz.ntmps157
    go_wp2
    exact bodyPost_ret (results_row_tmp (p := 4) (q := 5) rfl _ _ (w.heap.size + 1) 27 _ (0, 0) _ rfl (by rw [← World.size_alloc w (.cells #[.int .u64 (x : Int), .int .u64 (y : Int)] 27)]; exact ends_count _ _) Tryz.underlying27 rfl (by kernel_rfl)) rfl ⟨rfl, ((Below.refl _ _).alloc (Nat.le_refl _) _).alloc (by simp) _⟩
  · go_enter Tryz.func157, Tryz.ntmps157
    go_wp2
    exact bodyPost_ret (results_row_tmp (p := 4) (q := 5) rfl _ _ (w.heap.size + 1) 27 _ (0, 0) _ rfl (by rw [← World.size_alloc w (.cells #[.int .u64 (x : Int), .int .u64 (y : Int)] 27)]; exact ends_count _ _) Tryz.underlying27 rfl (by kernel_rfl)) rfl ⟨rfl, ((Below.refl _ _).alloc (Nat.le_refl _) _).alloc (by simp) _⟩
theorem split_count (h l S : Nat) (hl : l < 18446744073709551616) (hS : S = h * 18446744073709551616 + l) :
    cOk S = ((((h / 18446744073709551616 : Nat) : Int)) == 0) ∧ cHi S = keepN ((((h / 18446744073709551616 : Nat) : Int)) == 0) (h % 18446744073709551616) ∧ cLo S = keepN ((((h / 18446744073709551616 : Nat) : Int)) == 0) l := by
  subst hS
  unfold cOk cHi cLo keepN
  by_cases hs : h < 18446744073709551616
  · have e : ((h / 18446744073709551616 : Nat) : Int) = 0 := by omega
    have hc : h * 18446744073709551616 + l < 340282366920938463463374607431768211456 := by omega
    rw [e, if_pos hc, if_pos hc, decide_eq_true hc]
    simp only [beq_self_eq_true, cond_true, true_and]
    omega
  · have e : (((h / 18446744073709551616 : Nat) : Int) == 0) = false := by rw [beq_eq_false_iff_ne]; omega
    have hc : ¬ h * 18446744073709551616 + l < 340282366920938463463374607431768211456 := by omega
    rw [e, if_neg hc, if_neg hc, decide_eq_false hc]
    simp
theorem below_two {w w1 : World} {o1 o2 : Obj} (hb : Below ((w.alloc o1).alloc o2).heap.size ((w.alloc o1).alloc o2) w1) : Below w.heap.size w w1 :=
  (((Below.refl w.heap.size w).alloc (Nat.le_refl _) o1).alloc (by simp) o2).trans (hb.mono (by simp; omega))
theorem row_two {w w1 : World} {o1 : Obj} {cs : Array Value} {t : TypeId} (hb : Below ((w.alloc o1).alloc (.cells cs t)).heap.size ((w.alloc o1).alloc (.cells cs t)) w1) : RowOk w1 (w.heap.size + 1) cs.size :=
  RowOk.below ((RowOk_alloc_at (by simp)).2 rfl) hb (by simp)
theorem eight_math (hi lo : Nat) (hh : hi < 18446744073709551616) (hl : lo < 18446744073709551616) :
    cOk (8 * numC hi lo) = ((hi : Int) / 2305843009213693952 == 0) ∧
    cHi (8 * numC hi lo) = keepN ((hi : Int) / 2305843009213693952 == 0) (hi * 8 % 18446744073709551616 ||| lo / 2305843009213693952) ∧
    cLo (8 * numC hi lo) = keepN ((hi : Int) / 2305843009213693952 == 0) (lo * 8 % 18446744073709551616) := by
  have ho : hi * 8 % 18446744073709551616 ||| lo / 2305843009213693952 = (hi * 8 + lo / 2305843009213693952) % 18446744073709551616 := by
    have h1 : hi * 8 % 18446744073709551616 = 2 ^ 3 * (hi % 2305843009213693952) := by omega
    rw [h1, ← Nat.two_pow_add_eq_or_of_lt (by omega)]
    omega
  obtain ⟨e4, e5, e6⟩ := split_count (hi * 8 + lo / 2305843009213693952) (lo * 8 % 18446744073709551616) (8 * numC hi lo) (Nat.mod_lt _ (by omega)) (by unfold numC; omega)
  have e7 : (((hi * 8 + lo / 2305843009213693952) / 18446744073709551616 : Nat) : Int) = (hi : Int) / 2305843009213693952 := by omega
  rw [e4, e5, e6, e7, ho]
  exact ⟨rfl, rfl, rfl⟩
set_option maxHeartbeats 1000000 in
theorem bits_any (hi lo : Nat) (hh : hi < 18446744073709551616) (hl : lo < 18446744073709551616) (w : World) :
    Calls Tryz.prog 156 #[.agg #[.int .u64 (hi : Int), .int .u64 (lo : Int)]] w fun e w' => e = .returned (.tuple #[.agg #[.int .u64 (cHi (8 * numC hi lo) : Nat), .int .u64 (cLo (8 * numC hi lo) : Nat)], .bool (cOk (8 * numC hi lo))]) ∧ Below w.heap.size w w' := by
  obtain ⟨e1, e2, e3⟩ := eight_math hi lo hh hl
  rw [e1, e2, e3]
  clear e1 e2 e3
  have h8 : (hi * 8 % 18446744073709551616 ||| lo / 2305843009213693952) < 18446744073709551616 := or64 (Nat.mod_lt _ (by omega)) (by omega)
  have HO := Lib.hid (fun b W => onlyIf_any b (hi * 8 % 18446744073709551616 ||| lo / 2305843009213693952) (lo * 8 % 18446744073709551616) h8 (Nat.mod_lt _ (by omega)) W)
  have e8 : bits BinOp.or IntKind.u64 (IntKind.u64.wrap ((hi : Int) * 8)) ((lo : Int) / 2305843009213693952) = ((hi * 8 % 18446744073709551616 ||| lo / 2305843009213693952 : Nat) : Int) := by
    rw [IntKind.wrap_u64, show (hi : Int) * 8 % 18446744073709551616 = ((hi * 8 % 18446744073709551616 : Nat) : Int) by omega, show (lo : Int) / 2305843009213693952 = ((lo / 2305843009213693952 : Nat) : Int) by omega]
    exact u64_or_nat _ _ (by omega) (by omega)
  have e9 : IntKind.u64.wrap ((lo : Int) * 8) = ((lo * 8 % 18446744073709551616 : Nat) : Int) := by rw [IntKind.wrap_u64]; omega
  generalize (hi * 8 % 18446744073709551616 ||| lo / 2305843009213693952) = rh at *
  generalize lo * 8 % 18446744073709551616 = rl at *
  have E8 := Lib.hid e8
  have E9 := Lib.hid e9
  clear e8 e9 h8
  go_enter Tryz.func156, Tryz.ntmps156
  go_wp2_with fail
  rw [E8.out, E9.out]
  refine (HO.out _ _).mono ?_
  rintro e w1 ⟨rfl, hb1⟩
  have HR : RowOk w1 (w.heap.size + 1) 2 := row_two hb1
  have HB := Lib.hid (below_two hb1)
  clear hb1
  obtain ⟨tt, hfin⟩ := count_ret HR (keepN ((hi : Int) / 2305843009213693952 == 0) rh : Nat) (keepN ((hi : Int) / 2305843009213693952 == 0) rl : Nat)
  have HF := Lib.hid hfin
  clear hfin
  go_wp2
  exact bodyPost_ret (results_row_tmp (p := 2) (q := 3) rfl _ _ (w.heap.size + 1) tt _ (0, 0) _ rfl HF.out Tryz.underlying27 rfl (by kernel_rfl)) rfl ⟨rfl, below_setRow HB.out (by omega) _⟩
set_option maxHeartbeats 1000000 in
theorem fits_any (hi lo : Nat) (hh : hi < 18446744073709551616) (hl : lo < 18446744073709551616) (m : Int) (w : World) :
    Calls Tryz.prog 155 #[.agg #[.int .u64 (hi : Int), .int .u64 (lo : Int)], .int .i64 m] w fun e w' => e = .returned (.bool (fitsB (numC hi lo) m)) ∧ Below w.heap.size w w' := by
  have HB1 := Lib.hid (fun W => bits_any hi lo hh hl W)
  generalize numC hi lo = V at *
  have hrh := cHi_lt (8 * V)
  by_cases h64 : m = 64
  · subst h64
    have HO := Lib.hid (fits_64 V)
    generalize fitsB V 64 = fb at *
    generalize cHi (8 * V) = rh at *
    generalize cLo (8 * V) = rl at *
    generalize cOk (8 * V) = rk at *
    cases rk
    all_goals
      simp only [Bool.true_and, Bool.false_and] at HO
      go_enter Tryz.func155, Tryz.ntmps155
      go_wp2_with fail
      refine (HB1.out _).mono ?_
      rintro e w1 ⟨rfl, hb1⟩
      have HB := Lib.hid (((Below.refl w.heap.size w).alloc (Nat.le_refl _) (.cells #[.int .u64 (hi : Int), .int .u64 (lo : Int)] 27)).trans (hb1.mono (by simp)))
      clear hb1
      go_wp2
      go_ret
      refine ⟨?_, HB.out.alloc HB.out.size _⟩
      rw [HO.out]
      try rfl
  · have e64 : (m == 64) = false := by simp [h64]
    have HO := Lib.hid (fits_else V h64)
    generalize fitsB V m = fb at *
    generalize cHi (8 * V) = rh at *
    generalize cLo (8 * V) = rl at *
    generalize cOk (8 * V) = rk at *
    clear h64
    by_cases h128 : m = 128
    · subst h128
      go_enter Tryz.func155, Tryz.ntmps155
      go_wp2_with fail
      refine (HB1.out _).mono ?_
      rintro e w1 ⟨rfl, hb1⟩
      have HB := Lib.hid (((Below.refl w.heap.size w).alloc (Nat.le_refl _) (.cells #[.int .u64 (hi : Int), .int .u64 (lo : Int)] 27)).trans (hb1.mono (by simp)))
      clear hb1
      go_wp2
      go_ret
      refine ⟨?_, HB.out.alloc HB.out.size _⟩
      rw [HO.out]
      cases rk <;> rfl
    · have e128 : (m == 128) = false := by simp [h128]
      rw [e128] at HO
      go_enter Tryz.func155, Tryz.ntmps155
      go_wp2_with fail
      refine (HB1.out _).mono ?_
      rintro e w1 ⟨rfl, hb1⟩
      have HB := Lib.hid (((Below.refl w.heap.size w).alloc (Nat.le_refl _) (.cells #[.int .u64 (hi : Int), .int .u64 (lo : Int)] 27)).trans (hb1.mono (by simp)))
      clear hb1
      go_wp2
      go_ret
      refine ⟨?_, HB.out.alloc HB.out.size _⟩
      rw [HO.out]
      rfl
set_option maxHeartbeats 1000000 in
theorem mod_any (hi lo : Nat) (hh : hi < 18446744073709551616) (hl : lo < 18446744073709551616) (m : Int) (h0 : -9223372036854775808 ≤ m) (h1 : m ≤ 9223372036854775807) (w : World) :
    Calls Tryz.prog 55 #[.agg #[.int .u64 (hi : Int), .int .u64 (lo : Int)], .int .i64 m] w fun e w' => e = .returned (.int .i64 (modC (numC hi lo) m)) ∧ Below w.heap.size w w' := by
  by_cases hlo : m < 1
  · have HO : Hid (modC (numC hi lo) m = 0) := if_neg (by omega)
    go_enter Tryz.func55, Tryz.ntmps55
    go_wp2
    go_ret
    exact ⟨ret_int HO.out.symm, (Below.refl _ _).alloc (Nat.le_refl _) _⟩
  · by_cases hgt : 2147483647 < m
    · have HO : Hid (modC (numC hi lo) m = 0) := if_neg (by omega)
      go_enter Tryz.func55, Tryz.ntmps55
      go_wp2
      go_ret
      exact ⟨ret_int HO.out.symm, (Below.refl _ _).alloc (Nat.le_refl _) _⟩
    · obtain ⟨k, rfl⟩ := Int.eq_ofNat_of_zero_le (show 0 ≤ m by omega)
      have HO : Hid (modC (numC hi lo) k = (numC hi lo % k : Nat)) := by unfold Hid modC; rw [if_pos (by omega)]; simp
      have HR := Lib.hid (rem64_any hi lo k (by omega) (by omega) hh hl)
      have hv : numC hi lo % k < k := Nat.mod_lt _ (by omega)
      generalize numC hi lo % k = v at *
      generalize modC (numC hi lo) k = o at *
      have hk1 : 1 ≤ k := by omega
      have hk2 : k ≤ 2147483647 := by omega
      clear hlo hgt h0 h1
      go_enter Tryz.func55, Tryz.ntmps55
      go_wp2_with (go_at_call 85; refine (HR.out _).mono ?_; rintro e w1 ⟨rfl, n, rfl⟩)
      go_ret
      exact ⟨ret_int HO.out.symm, ((Below.refl _ _).alloc (Nat.le_refl _) _).drewN n⟩
end Go.Proofs.YtflgnhplbblokaaGreatDoor
end

section
namespace Go.Proofs.YtflgnhplbblokaaGreatDoor.Mk
open Go.RowKit Rw
set_option linter.unusedVariables false
set_option linter.unusedSimpArgs false
def sz11 (alg : Int) : Nat := if alg = 1 ∨ alg = 2 then 64 else if alg = 3 ∨ alg = 4 ∨ alg = 5 ∨ alg = 6 then 128 else 0
def low32 (h : Nat → Nat) : Bool := (List.range 8).all fun i => ((h i : Nat) : Int) == ((h i % 4294967296 : Nat) : Int)
theorem low32_iff (h : Nat → Nat) : low32 h = true ↔ ∀ i, i < 8 → h i < 4294967296 := by
  unfold low32
  rw [List.all_eq_true]
  constructor
  · intro k i hi
    have := k i (List.mem_range.2 hi)
    rw [beq_iff_eq] at this
    omega
  · intro k i hi
    have := k i (List.mem_range.1 hi)
    rw [beq_iff_eq]
    omega
def right11 (alg : Int) (h : Nat → Nat) (V n : Nat) : Bool :=
  if sz11 alg = 0 then false else (decide (sz11 alg = 128) || low32 h) && (fitsB V (sz11 alg : Nat) && (modC V (sz11 alg : Nat) == (n : Int)))
theorem sz11_cases (alg : Int) : (sz11 alg = 64 ∧ (alg = 1 ∨ alg = 2)) ∨ (sz11 alg = 128 ∧ (alg = 3 ∨ alg = 4 ∨ alg = 5 ∨ alg = 6)) ∨ (sz11 alg = 0 ∧ alg ≠ 1 ∧ alg ≠ 2 ∧ alg ≠ 3 ∧ alg ≠ 4 ∧ alg ≠ 5 ∧ alg ≠ 6) := by
  unfold sz11
  split
  · rename_i h; exact .inl ⟨rfl, h⟩
  · split
    · rename_i h; exact .inr (.inl ⟨rfl, h⟩)
    · exact .inr (.inr ⟨rfl, by omega⟩)
theorem ofShort_any (d : Int) (w : World) : Calls Tryz.prog 91 #[.int .i64 d] w fun e w' => e = .returned (.iface 159 (.agg #[.int .i64 d, .int .i64 64])) ∧ w = w' := by
  go_enter Tryz.func91, Tryz.ntmps91
  go_wp2
  go_ret
  exact ⟨rfl, rfl⟩
theorem ofLong_any (d : Int) (w : World) : Calls Tryz.prog 92 #[.int .i64 d] w fun e w' => e = .returned (.iface 160 (.agg #[.int .i64 d, .int .i64 128])) ∧ w = w' := by
  go_enter Tryz.func92, Tryz.ntmps92
  go_wp2
  go_ret
  exact ⟨rfl, rfl⟩
theorem hashOf_none (n : Int) (w : World) (h : n ≠ 1 ∧ n ≠ 2 ∧ n ≠ 3 ∧ n ≠ 4 ∧ n ≠ 5 ∧ n ≠ 6) : Calls Tryz.prog 69 #[.int .i64 n] w fun e w' => e = .returned (.tuple #[.nilIface, .bool false]) ∧ w = w' := by
  have k1 : (n == 1) = false := by rw [beq_eq_false_iff_ne]; omega
  have k2 : (n == 2) = false := by rw [beq_eq_false_iff_ne]; omega
  have k3 : (n == 3) = false := by rw [beq_eq_false_iff_ne]; omega
  have k4 : (n == 4) = false := by rw [beq_eq_false_iff_ne]; omega
  have k5 : (n == 5) = false := by rw [beq_eq_false_iff_ne]; omega
  have k6 : (n == 6) = false := by rw [beq_eq_false_iff_ne]; omega
  clear h
  go_enter Tryz.func69, Tryz.ntmps69
  go_wp2_with fail
  go_ret2
  exact ⟨rfl, rfl⟩
theorem hashOf_short (n : Int) (w : World) (h : n = 1 ∨ n = 2) : Calls Tryz.prog 69 #[.int .i64 n] w fun e w' => ∃ d : Int, e = .returned (.tuple #[.iface 159 (.agg #[.int .i64 d, .int .i64 64]), .bool true]) ∧ w = w' := by
  rcases h with rfl | rfl
  all_goals
    go_enter Tryz.func69, Tryz.ntmps69
    go_wp2_with (go_at_call 91; refine (ofShort_any _ _).mono ?_; rintro e w1 ⟨rfl, rfl⟩)
    go_ret2
    exact ⟨_, rfl, rfl⟩
theorem hashOf_long (n : Int) (w : World) (h : n = 3 ∨ n = 4 ∨ n = 5 ∨ n = 6) : Calls Tryz.prog 69 #[.int .i64 n] w fun e w' => ∃ d : Int, e = .returned (.tuple #[.iface 160 (.agg #[.int .i64 d, .int .i64 128]), .bool true]) ∧ w = w' := by
  rcases h with rfl | rfl | rfl | rfl
  all_goals
    go_enter Tryz.func69, Tryz.ntmps69
    go_wp2_with (go_at_call 92; refine (ofLong_any _ _).mono ?_; rintro e w1 ⟨rfl, rfl⟩)
    go_ret2
    exact ⟨_, rfl, rfl⟩
section
attribute [local go_sem ↓] load8k store8k zero8k load8v store8v zero8v
attribute [local go_sem] run_load8k run_store8k run_load8v run_store8v
set_option maxRecDepth 100000 in
set_option maxHeartbeats 1000000 in
theorem holdsShort_any (d : Int) (h : Nat → Nat) (hh : ∀ i, h i < 18446744073709551616) (w : World) :
    Calls Tryz.prog 159 #[.agg #[.int .i64 d, .int .i64 64], .agg (uTab 8 h)] w fun e w' => e = .returned (.bool (low32 h)) ∧ Below w.heap.size w w' := by
  have C1 := Lib.hid (fun W => narrowed_any h hh W)
  have C2 := Lib.hid (fun W => widened_any (fun i => h i % 4294967296) (fun i => Nat.mod_lt _ (by omega)) W)
  obtain ⟨i0, hi0⟩ : ∃ i, Tryz.prog.info? 24 = some i := Option.isSome_iff_exists.1 (by kernel_rfl)
  have HQ := Lib.hid (fun W => equalIn_arrs (P := Tryz.prog) (k := .u64) W Tryz.underlying25 Tryz.underlying24 hi0 (by kernel_rfl) (fun i => ((h i : Nat) : Int)) (fun i => ((h i % 4294967296 : Nat) : Int)) (n := 8))
  have HL : Hid (∀ W, (Op.equalIn 10000 25 (.agg (uTab 8 h)) (.agg (uTab 8 fun i => h i % 4294967296))).run Tryz.prog W = .ok (low32 h) W) := fun W => HQ.out W
  obtain ⟨n1, hn1⟩ : ∃ o, o = Obj.cells #[.int .i64 d, .int .i64 64] 159 := ⟨_, rfl⟩
  have H0 : Hid (Hold ((w.alloc n1).alloc (.cells (uTab 8 h) 25)).drew (w.heap.size + 1) 8 (uTab 8 h)) := (Hold.new1 w _ (uTab 8 h) _ 8 (uTab_size _ _)).drew
  have HB := Lib.hid (below_drew (((Below.refl _ w).alloc (Nat.le_refl _) n1).alloc (by simp) (.cells (uTab 8 h) 25)))
  have q0 := H0.out.load (T := 25) Tryz.underlying25 rfl (by kernel_rfl)
  rw [hn1] at H0 q0 HB
  clear hn1 HQ
  generalize low32 h = b at *
  go_enter Tryz.func159, Tryz.ntmps159
  go_wp2_with fail
  go_region_law (first
    | (go_simp
       go_at_call 162
       (with_reducible refine (C1.out _).mono ?_)
       rintro e u1 ⟨rfl, hb1⟩
       have H1 := Lib.hid (H0.out.call hb1)
       have q1 := H1.out.load (T := 25) Tryz.underlying25 rfl (by kernel_rfl)
       have HB1 := Lib.hid (HB.out.trans (hb1.mono HB.out.size))
       clear hb1)
    | (go_simp
       go_at_call 161
       (with_reducible refine (C2.out _).mono ?_)
       rintro e u2 ⟨rfl, hb2⟩
       have H2 := Lib.hid (H1.out.call hb2)
       have q2 := H2.out.load (T := 25) Tryz.underlying25 rfl (by kernel_rfl)
       have q3 := HL.out u2
       have HB2 := Lib.hid (HB1.out.trans (hb2.mono HB1.out.size))
       clear hb2))
  all_goals
    go_wp2_with fail
    go_ret
    exact ⟨rfl, HB2.out⟩
end
end Go.Proofs.YtflgnhplbblokaaGreatDoor.Mk
end

section
namespace Go.Proofs.YtflgnhplbblokaaGreatDoor.Mk
open Go.RowKit Rw
set_option linter.unusedVariables false
set_option linter.unusedSimpArgs false
theorem blk_count {W : World} {n : Nat} {alg : Int} {h : Nat → Nat} {hi lo : Nat} {s : Value} {fl : Bool} (H : Hold W n 13 (blkV alg h hi lo s fl)) :
    (loadRow 27 (.pointer (some ⟨n, 9, none⟩))).run Tryz.prog W = .ok (.agg #[.int .u64 (hi : Nat), .int .u64 (lo : Nat)]) W :=
  run_loadAt_mid W n 9 27 [.int .u64 (hi : Nat), .int .u64 (lo : Nat)] _ (fun j v hj => by
    match j, hj with
    | 0, hj => exact H.cell hj
    | 1, hj => exact H.cell hj) Tryz.underlying27 rfl (by kernel_rfl)
set_option maxRecDepth 100000 in
set_option maxHeartbeats 1000000 in
theorem leaves_any (d s : Int) (s0 : -9223372036854775808 ≤ s) (s1 : s ≤ 9223372036854775807) (hi lo : Nat) (hh : hi < 18446744073709551616) (hl : lo < 18446744073709551616) (n : Nat) (w : World) :
    Calls Tryz.prog 152 #[.agg #[.int .i64 d, .int .i64 s], .agg #[.int .u64 (hi : Nat), .int .u64 (lo : Nat)], .int .i64 (n : Nat)] w
      fun e w' => e = .returned (.bool (fitsB (numC hi lo) s && (modC (numC hi lo) s == (n : Int)))) ∧ Below w.heap.size w w' := by
  have C1 := Lib.hid (fun W => fits_any hi lo hh hl s W)
  have C2 := Lib.hid (fun W => mod_any hi lo hh hl s s0 s1 W)
  obtain ⟨o1, ho1⟩ : ∃ o, o = Obj.cells #[.int .i64 d, .int .i64 s] 157 := ⟨_, rfl⟩
  have H0 : Hid (Hold ((w.alloc (.cells #[.int .i64 d, .int .i64 s] 157)).alloc (.cells #[.int .u64 (hi : Nat), .int .u64 (lo : Nat)] 27)) w.heap.size 2 #[.int .i64 d, .int .i64 s]) := (Hold.new w _ _ 2 rfl).past _
  have H1 : Hid (Hold ((w.alloc (.cells #[.int .i64 d, .int .i64 s] 157)).alloc (.cells #[.int .u64 (hi : Nat), .int .u64 (lo : Nat)] 27)) (w.heap.size + 1) 2 #[.int .u64 (hi : Nat), .int .u64 (lo : Nat)]) := Hold.new1 w _ _ _ 2 rfl
  have HB := Lib.hid (((Below.refl _ w).alloc (Nat.le_refl _) (.cells #[.int .i64 d, .int .i64 s] 157)).alloc (by simp) (.cells #[.int .u64 (hi : Nat), .int .u64 (lo : Nat)] 27))
  clear hh hl s0 s1 ho1
  generalize modC (numC hi lo) s = m at *
  cases hb : fitsB (numC hi lo) s with
  | false =>
    rw [hb] at C1
    clear hb
    go_enter Tryz.func152, Tryz.ntmps152
    go_wp2_with (go_at_call 155; (with_reducible refine (C1.out _).mono ?_); rintro e u1 ⟨rfl, hb1⟩; have HB1 := Lib.hid (HB.out.trans (hb1.mono HB.out.size)); clear hb1)
    go_ret
    exact ⟨rfl, HB1.out⟩
  | true =>
    rw [hb] at C1
    clear hb
    go_enter Tryz.func152, Tryz.ntmps152
    go_wp2_with (first
      | (go_at_call 155; ((with_reducible refine (C1.out _).mono ?_); rintro e u1 ⟨rfl, hb1⟩; have HB1 := Lib.hid (HB.out.trans (hb1.mono HB.out.size)); have G0 := Lib.hid (H0.out.call hb1); have G1 := Lib.hid (H1.out.call hb1); have q1 : u1.cell? ⟨w.heap.size, 1, none⟩ = some (.int .i64 s) := G0.out.cell rfl; have q2 := G1.out.load (T := 27) Tryz.underlying27 rfl (by kernel_rfl); clear hb1))
      | (go_at_call 55; ((with_reducible refine (C2.out _).mono ?_); rintro e u2 ⟨rfl, hb2⟩; have HB2 := Lib.hid (HB1.out.trans (hb2.mono HB1.out.size)); clear hb2)))
    go_ret
    exact ⟨rfl, HB2.out⟩
theorem holdsLong_any (d : Int) (h : Nat → Nat) (w : World) : Calls Tryz.prog 164 #[.agg #[.int .i64 d, .int .i64 128], .agg (uTab 8 h)] w fun e w' => e = .returned (.bool true) ∧ Below w.heap.size w w' := by
  have HB := Lib.hid (fun o => ((Below.refl _ w).alloc (Nat.le_refl _) (.cells #[.int .i64 d, .int .i64 128] 160)).alloc (by simp) o)
  go_enter Tryz.func164, Tryz.ntmps164
  go_wp2
  go_ret
  exact ⟨rfl, HB.out _⟩
theorem inv_holdsS (k : Nat) (x : Value) (W : World) : (method (k + 1) 159 x "cribble/merkle.holds").run Tryz.prog W = .ok (159, x) W := by kernel_rfl
theorem inv_holdsL (k : Nat) (x : Value) (W : World) : (method (k + 1) 160 x "cribble/merkle.holds").run Tryz.prog W = .ok (164, x) W := by kernel_rfl
theorem inv_leavesS (k : Nat) (a b : Value) (W : World) : (method (k + 1) 159 (.agg #[a, b]) "cribble/merkle.leaves").run Tryz.prog W = .ok (152, .agg #[a, b]) W := by kernel_rfl
theorem inv_leavesL (k : Nat) (a b : Value) (W : World) : (method (k + 1) 160 (.agg #[a, b]) "cribble/merkle.leaves").run Tryz.prog W = .ok (152, .agg #[a, b]) W := by kernel_rfl
section
attribute [local go_sem] inv_holdsS inv_holdsL inv_leavesS inv_leavesL
theorem uTab8 (h : Nat → Nat) : (#[.int .u64 (h 0 : Nat), .int .u64 (h 1 : Nat), .int .u64 (h 2 : Nat), .int .u64 (h 3 : Nat), .int .u64 (h 4 : Nat), .int .u64 (h 5 : Nat), .int .u64 (h 6 : Nat), .int .u64 (h 7 : Nat)] : Array Value) = uTab 8 h := rfl
set_option maxRecDepth 100000 in
set_option maxHeartbeats 1000000 in
theorem right11_any (alg : Int) (h : Nat → Nat) (hh : ∀ i, h i < 18446744073709551616) (hi lo : Nat) (hhi : hi < 18446744073709551616) (hl : lo < 18446744073709551616) (A : Option Addr) (n c : Nat) (fl : Bool) (w : World) :
    Calls Tryz.prog 37 #[.agg (blkV alg h hi lo (.slice A n c) fl)] w fun e w' => e = .returned (.bool (right11 alg h (numC hi lo) n)) ∧ Below w.heap.size w w' := by
  unfold right11
  rcases sz11_cases alg with ⟨hs, ha⟩ | ⟨hs, ha⟩ | ⟨hs, ha⟩
  · rw [hs]
    have CS := Lib.hid (fun d W => holdsShort_any d h hh W)
    have CH := Lib.hid (fun W => hashOf_short alg W ha)
    have CL := Lib.hid (fun d W => leaves_any d 64 (by omega) (by omega) hi lo hhi hl n W)
    have H0 : Hid (Hold (w.alloc (.cells (blkV alg h hi lo (.slice A n c) fl) 29)) w.heap.size 13 (blkV alg h hi lo (.slice A n c) fl)) := Hold.new w _ _ 13 rfl
    have HB := Lib.hid ((Below.refl _ w).alloc (Nat.le_refl _) (.cells (blkV alg h hi lo (.slice A n c) fl) 29))
    unfold blkV at *
    clear ha hs hh hhi hl
    rw [if_neg (by decide), show ((64 : Nat) : Int) = 64 from rfl]
    generalize (fitsB (numC hi lo) 64 && (modC (numC hi lo) 64 == (n : Int))) = z at *
    rw [show (decide ((64 : Nat) = 128) || low32 h) = low32 h from by simp]
    cases hb : low32 h with
    | false =>
      rw [hb] at CS
      clear hb
      go_enter Tryz.func37, Tryz.ntmps37
      go_wp2_with (first
        | (go_at_call 69; ((with_reducible refine (CH.out _).mono ?_); rintro e u1 ⟨d, rfl, rfl⟩))
        | (go_at_call 159; (rw [uTab8]; (with_reducible refine (CS.out d _).mono ?_); rintro e u2 ⟨rfl, hb2⟩; have HB2 := Lib.hid (HB.out.trans (hb2.mono HB.out.size)); have G := Lib.hid (H0.out.call hb2); have q1 := blk_count G.out; have q3 : u2.cell? ⟨w.heap.size, 11, none⟩ = some (.slice A n c) := G.out.cell rfl; clear hb2))
        | (go_at_call 152; ((with_reducible refine (CL.out d _).mono ?_); rintro e u3 ⟨rfl, hb3⟩; have HB3 := Lib.hid (HB2.out.trans (hb3.mono HB2.out.size)); clear hb3)))
      go_ret
      refine ⟨?_, HB2.out⟩
      simp
    | true =>
      rw [hb] at CS
      clear hb
      go_enter Tryz.func37, Tryz.ntmps37
      go_wp2_with (first
        | (go_at_call 69; ((with_reducible refine (CH.out _).mono ?_); rintro e u1 ⟨d, rfl, rfl⟩))
        | (go_at_call 159; (rw [uTab8]; (with_reducible refine (CS.out d _).mono ?_); rintro e u2 ⟨rfl, hb2⟩; have HB2 := Lib.hid (HB.out.trans (hb2.mono HB.out.size)); have G := Lib.hid (H0.out.call hb2); have q1 := blk_count G.out; have q3 : u2.cell? ⟨w.heap.size, 11, none⟩ = some (.slice A n c) := G.out.cell rfl; clear hb2))
        | (go_at_call 152; ((with_reducible refine (CL.out d _).mono ?_); rintro e u3 ⟨rfl, hb3⟩; have HB3 := Lib.hid (HB2.out.trans (hb3.mono HB2.out.size)); clear hb3)))
      go_ret
      refine ⟨?_, HB3.out⟩
      simp
  · rw [hs]
    have CS := Lib.hid (fun d W => holdsLong_any d h W)
    have CH := Lib.hid (fun W => hashOf_long alg W ha)
    have CL := Lib.hid (fun d W => leaves_any d 128 (by omega) (by omega) hi lo hhi hl n W)
    have H0 : Hid (Hold (w.alloc (.cells (blkV alg h hi lo (.slice A n c) fl) 29)) w.heap.size 13 (blkV alg h hi lo (.slice A n c) fl)) := Hold.new w _ _ 13 rfl
    have HB := Lib.hid ((Below.refl _ w).alloc (Nat.le_refl _) (.cells (blkV alg h hi lo (.slice A n c) fl) 29))
    unfold blkV at *
    clear ha hs hh hhi hl
    rw [if_neg (by decide), show ((128 : Nat) : Int) = 128 from rfl]
    generalize (fitsB (numC hi lo) 128 && (modC (numC hi lo) 128 == (n : Int))) = z at *
    rw [show (decide ((128 : Nat) = 128) || low32 h) = true from by simp]
    go_enter Tryz.func37, Tryz.ntmps37
    go_wp2_with (first
      | (go_at_call 69; ((with_reducible refine (CH.out _).mono ?_); rintro e u1 ⟨d, rfl, rfl⟩))
      | (go_at_call 164; (rw [uTab8]; (with_reducible refine (CS.out d _).mono ?_); rintro e u2 ⟨rfl, hb2⟩; have HB2 := Lib.hid (HB.out.trans (hb2.mono HB.out.size)); have G := Lib.hid (H0.out.call hb2); have q1 := blk_count G.out; have q3 : u2.cell? ⟨w.heap.size, 11, none⟩ = some (.slice A n c) := G.out.cell rfl; clear hb2))
      | (go_at_call 152; ((with_reducible refine (CL.out d _).mono ?_); rintro e u3 ⟨rfl, hb3⟩; have HB3 := Lib.hid (HB2.out.trans (hb3.mono HB2.out.size)); clear hb3)))
    go_ret
    refine ⟨?_, HB3.out⟩
    simp
  · rw [hs]
    have CH := Lib.hid (fun W => hashOf_none alg W ha)
    clear ha hs
    have HB := Lib.hid ((Below.refl _ w).alloc (Nat.le_refl _) (.cells (blkV alg h hi lo (.slice A n c) fl) 29))
    unfold blkV at *
    go_enter Tryz.func37, Tryz.ntmps37
    go_wp2_with (go_at_call 69; (with_reducible refine (CH.out _).mono ?_); rintro e u1 ⟨rfl, rfl⟩)
    go_ret
    exact ⟨rfl, HB.out⟩
end
end Go.Proofs.YtflgnhplbblokaaGreatDoor.Mk
end

section
namespace Go.Proofs.YtflgnhplbblokaaGreatDoor
open Go.RowKit
set_option linter.unusedVariables false
abbrev encB : Nat → Value := fun x => Value.int .u8 (x : Nat)
open Go.Sort Go.Lib in
set_option maxHeartbeats 1600000 in
set_option maxRecDepth 1000000 in
theorem reverse_arr (blk off cap : Nat) (d : Array Nat) (w : World) (hH : Holds encB w blk off d) (hsz : d.size ≤ 9223372036854775807) :
    Calls Tryz.prog 121 #[.slice (some ⟨blk, off, none⟩) d.size cap] w fun e w' => e = .returned (.tuple #[]) ∧ ∃ n, w' = putRow encB (Sort.ahead w n) blk off d.reverse := by
  have hmx : Tryz.prog.follows .mixedOrders = true := by kernel_rfl
  go_enter Tryz.func121, Tryz.ntmps121
  go_wp2
  go_loopg [2, 3] d.size (fun k s2 s3 wr => ∃ (i jn : Nat) (jz : Int) (dk : Array Nat) (n : Nat), s2 = .int .i64 i ∧ s3 = .int .i64 jz ∧ ((i : Int) < jz → jz = jn ∧ jn < d.size) ∧ (¬ (i : Int) < jz → ¬ i < jn) ∧ jn - i ≤ k ∧
    dk.size = d.size ∧ wr = putRow encB (Sort.ahead w n) blk off dk ∧ reverseLoop i jn dk = reverseLoop 0 (d.size - 1) d)
  case atStart => exact ⟨0, d.size - 1, (d.size : Int) - 1, d, 0, rfl, rfl, fun h => ⟨by omega, by omega⟩, fun h => by omega, by omega, rfl, (putRow_self encB w blk off d hH).symm, rfl⟩
  case round =>
    obtain ⟨i, jn, jz, dk, n, rfl, rfl, h1, h2, hk, hds, hwr, heq⟩ := hrel
    by_cases hlt : (i : Int) < jz
    · obtain ⟨rfl, hjn⟩ := h1 hlt
      have hij : i < jn := by omega
      have hHk : Holds encB wr blk off dk := by rw [hwr]; exact holds_putRow encB _ blk off d dk (holds_ahead encB w n blk off d hH) hds
      obtain ⟨ci, fi⟩ := hHk i (by omega)
      obtain ⟨cj, fj⟩ := hHk jn (by omega)
      have A : Aside (wr = putRow encB (Sort.ahead w n) blk off dk) := hwr
      clear hwr hHk hH h1 h2
      go_wp2_with fail
      go_region_o
      go_wp2
      go_roundg (jn - 1 - (i + 1))
      case measure => omega
      case rel =>
        rw [reverseLoop, if_pos hij] at heq
        exact ⟨i + 1, jn - 1, (jn : Int) - 1, swp dk i jn, n + 1, by simp, rfl, fun h => ⟨by omega, by omega⟩, fun h => by omega, Nat.le_refl _, by rw [size_swp]; exact hds,
          swap_world encB (by omega) (by omega) A.out (by first | rfl | simp [encB, getElem!_pos, show jn < dk.size by omega]) (by first | rfl | simp [encB, getElem!_pos, show i < dk.size by omega]), heq⟩
    · have hnot := h2 hlt
      go_wp2
      go_end0
      refine ⟨rfl, n, ?_⟩
      rw [reverseLoop, if_neg hnot] at heq
      rw [← Lib.reverseLoop_reverse, ← heq]
end Go.Proofs.YtflgnhplbblokaaGreatDoor
end
