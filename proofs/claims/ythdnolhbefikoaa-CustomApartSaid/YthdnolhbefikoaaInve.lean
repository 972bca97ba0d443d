/- A region that draws its order, by what is kept: values that are known, and slices of bytes that calls have made. No program is named here. -/
import Derived.Test.YthdnolhbefikoaaInv
import Derived.Test.YthdnolhbefikoaaBytes
namespace Go.Proofs.Ythdnolhbefikoaa.Rw
open Go.RowKit
set_option linter.unusedVariables false
set_option linter.unusedSimpArgs false
/-- What is said of an operation's value: it stays so in every world in which nothing older has changed. -/
structure Phi where
  says : Value → World → Prop
  stays : ∀ v w w', says v w → Below w.heap.size w w' → says v w'
def isV (x : Value) : Phi := ⟨fun v _ => v = x, fun _ _ _ h _ => h⟩
def isB (n : Nat) (xs : List Nat) : Phi := ⟨fun v w => ∃ A c, v = .slice A n c ∧ Words .u8 w A xs, fun _ _ _ ⟨A, c, h1, h2⟩ hb => ⟨A, c, h1, h2.below hb (Nat.le_refl _)⟩⟩
structure JE (W0 : World) (ds : List Nat) (ps : List Phi) (L : Nat → Bool) (s : Nat → Value) (w : World) : Prop where
  below : Below W0.heap.size W0 w
  val : ∀ i, i < ds.length → L i = true → (ps.getD i (isV undef)).says (s (ds.getD i 0)) w
theorem JE.start (W0 : World) (ds : List Nat) (ps : List Phi) (s : Nat → Value) : JE W0 ds ps (fun _ => false) s W0.drew := ⟨(Below.refl _ _).drewN 1, fun i _ h => Bool.noConfusion h⟩
theorem JE.step {W0 : World} {ds : List Nat} {ps : List Phi} {L : Nat → Bool} {s : Nat → Value} {w w' : World} (h : JE W0 ds ps L s w) (hn : ds.Nodup) (i : Nat) (hi : i < ds.length) (hb : Below w.heap.size w w') {v : Value} (hv : (ps.getD i (isV undef)).says v w') :
    JE W0 ds ps (updB L i) (updS s (some (ds.getD i 0)) v) w' :=
  ⟨h.below.trans (hb.mono h.below.size), fun j hj hL => by
    by_cases e : j = i
    · subst e; rw [updS_self]; exact hv
    · rw [updS_other (fun x => e (nodup_getD hn hj hi x))]
      rw [updB_other e] at hL
      exact (ps.getD j (isV undef)).stays _ _ _ (h.val j hj hL) hb⟩
theorem JE.still {W0 : World} {ds : List Nat} {ps : List Phi} {L : Nat → Bool} {s : Nat → Value} {w : World} (h : JE W0 ds ps L s w) (hn : ds.Nodup) (i : Nat) (hi : i < ds.length) {v : Value} (hv : (ps.getD i (isV undef)).says v w) :
    JE W0 ds ps (updB L i) (updS s (some (ds.getD i 0)) v) w := h.step hn i hi (Below.refl _ _) hv
theorem JE.bytes {W0 : World} {ds : List Nat} {ps : List Phi} {L : Nat → Bool} {s : Nat → Value} {w : World} (h : JE W0 ds ps L s w) (i : Nat) (hi : i < ds.length) (hL : L i = true) {n : Nat} {xs : List Nat} (hp : ps.getD i (isV undef) = isB n xs) {d : Nat} (hd : ds.getD i 0 = d) :
    ∃ A c, s d = .slice A n c ∧ Words .u8 w A xs := by
  have := h.val i hi hL
  rw [hp, hd] at this
  exact this
theorem JE.stepB {W0 : World} {ds : List Nat} {ps : List Phi} {L : Nat → Bool} {s : Nat → Value} {w w' : World} (h : JE W0 ds ps L s w) (hn : ds.Nodup) (i : Nat) (hi : i < ds.length) (hb : Below w.heap.size w w') {n : Nat} {xs : List Nat} (hp : ps.getD i (isV undef) = isB n xs) {A : Option Addr} {c : Nat} (hw : Words .u8 w' A xs) :
    JE W0 ds ps (updB L i) (updS s (some (ds.getD i 0)) (.slice A n c)) w' :=
  h.step hn i hi hb (by rw [hp]; exact ⟨A, c, rfl, hw⟩)
end Go.Proofs.Ythdnolhbefikoaa.Rw
