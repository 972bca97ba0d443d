/- Layer 13: the permutation as a function of lanes; the way back; no function of the program is called here. -/
import Derived.Test.YtknogmianfnfoaaDoorStepf
namespace Go.Proofs.YtknogmianfnfoaaDoor.L64
open Go.RowKit Rw
set_option linter.unusedVariables false
set_option linter.unusedSimpArgs false
/-- The same on all lanes. -/
def E25 (f g : Nat → Nat) : Prop := ∀ i, i < 25 → f i = g i
theorem E25.refl (f : Nat → Nat) : E25 f f := fun _ _ => rfl
theorem E25.symm {f g : Nat → Nat} (h : E25 f g) : E25 g f := fun i hi => (h i hi).symm
theorem E25.trans {f g h : Nat → Nat} (h1 : E25 f g) (h2 : E25 g h) : E25 f h := fun i hi => (h1 i hi).trans (h2 i hi)
theorem E25.tab {f g : Nat → Nat} (h : E25 f g) : uTab 25 f = uTab 25 g := uTab_congr h
/-! ### The steps hang on the lanes alone -/
theorem colN_E {f g : Nat → Nat} (h : E25 f g) (j : Nat) (hj : j < 5) : colN f j = colN g j := by
  unfold colN
  rw [h j (by omega), h (j + 5) (by omega), h (j + 10) (by omega), h (j + 15) (by omega), h (j + 20) (by omega)]
theorem dN_E {c d : Nat → Nat} (h : ∀ j, j < 5 → c j = d j) (x : Nat) : dN c x = dN d x := by
  unfold dN
  rw [h _ (by omega), h _ (by omega)]
theorem thetaN_E {f g : Nat → Nat} (h : E25 f g) : E25 (thetaN f) (thetaN g) := fun i hi => by
  unfold thetaN
  rw [h i hi, dN_E (colN_E h)]
theorem rhoN_E {f g : Nat → Nat} (h : E25 f g) : E25 (rhoN f) (rhoN g) := fun i hi => by unfold rhoN; rw [h i hi]
theorem piN_E {f g : Nat → Nat} (h : E25 f g) : E25 (piN f) (piN g) := fun i hi => by unfold piN; rw [h _ (by omega)]
theorem chiN_E {f g : Nat → Nat} (h : E25 f g) : E25 (chiN f) (chiN g) := fun i hi => by
  unfold chiN
  rw [h i hi, h _ (placeN_lt _ _), h _ (placeN_lt _ _)]
theorem iotaN_E {f g : Nat → Nat} (h : E25 f g) (r : Int) : E25 (iotaN f r) (iotaN g r) := fun i hi => by
  unfold iotaN
  rw [h i hi, h 0 (by omega)]
/-! ### Rounds -/
def kRound (f : Nat → Nat) (r : Int) : Nat → Nat := iotaN (chiN (piN (rhoN (thetaN f)))) r
theorem kRound_lt {f : Nat → Nat} (hf : ∀ i, f i < 18446744073709551616) (r : Int) (i : Nat) : kRound f r i < 18446744073709551616 :=
  iotaN_lt (chiN_lt (piN_lt (rhoN_lt (thetaN_lt hf)))) r i
theorem kRound_E {f g : Nat → Nat} (h : E25 f g) (r : Int) : E25 (kRound f r) (kRound g r) := iotaN_E (chiN_E (piN_E (rhoN_E (thetaN_E h)))) r
/-- n rounds, from k on. -/
def kIt (f : Nat → Nat) (k : Nat) : Nat → Nat → Nat
  | 0 => f
  | n + 1 => kRound (kIt f k n) (k + n : Nat)
theorem kIt_lt {f : Nat → Nat} (hf : ∀ i, f i < 18446744073709551616) (k : Nat) : ∀ n i, kIt f k n i < 18446744073709551616
  | 0, i => hf i
  | n + 1, i => kRound_lt (kIt_lt hf k n) _ i
theorem kIt_add (f : Nat → Nat) (k m : Nat) : ∀ n, kIt f k (m + n) = kIt (kIt f k m) (k + m) n
  | 0 => rfl
  | n + 1 => by
    show kRound (kIt f k (m + n)) (k + (m + n) : Nat) = kRound (kIt (kIt f k m) (k + m) n) (k + m + n : Nat)
    rw [kIt_add f k m n, Nat.add_assoc]
/-- Held within 0 and 24. -/
def held (x : Int) : Nat := (min (max x 0) 24).toNat
theorem held_le (x : Int) : held x ≤ 24 := by unfold held; omega
/-! ### The way back: columns -/
theorem xor_cancel (a b : Nat) : a ^^^ (a ^^^ b) = b := by rw [← Nat.xor_assoc, Nat.xor_self, Nat.zero_xor]
theorem rot_of {x a b : Nat} (h : a = b) : rot 64 x a = rot 64 x b := by rw [h]
/-- Turned to the left, by any number. -/
def rt (x t : Nat) : Nat := rot 64 x (turnBy 64 (-(t : Int)))
theorem rt_lt {x : Nat} (t : Nat) (hx : x < 18446744073709551616) : rt x t < 18446744073709551616 := rot64 hx
theorem rt_rt {x : Nat} (a b : Nat) (hx : x < 18446744073709551616) : rt (rt x a) b = rt x (a + b) := by
  unfold rt
  rw [rot_rot (n := 64) hx (turnBy_lt _ (by omega)) (turnBy_lt _ (by omega))]
  exact rot_of (by unfold turnBy; omega)
theorem rt_xor {x y : Nat} (t : Nat) (hx : x < 18446744073709551616) (hy : y < 18446744073709551616) : rt (x ^^^ y) t = rt x t ^^^ rt y t := rot_xor (n := 64) hx hy (turnBy_lt _ (by omega))
theorem rt_one (x : Nat) : rt x 1 = rl x 1 := rot_of (by decide)
theorem rt_full {x : Nat} (t : Nat) (ht : t % 64 = 0) (hx : x < 18446744073709551616) : rt x t = x := by
  unfold rt
  rw [show turnBy 64 (-(t : Int)) = 0 by unfold turnBy; omega]
  exact rot_zero (n := 64) (by omega) hx
/-- What theta, done t times, makes of the columns' sums, where t is a power of two. -/
def thN (t : Nat) (c : Nat → Nat) (x : Nat) : Nat := c (x % 5) ^^^ (c ((x + 4 * t) % 5) ^^^ rt (c ((x + t) % 5)) t)
theorem thN_lt {c : Nat → Nat} (t : Nat) (hc : ∀ i, c i < 18446744073709551616) (x : Nat) : thN t c x < 18446744073709551616 := xor64 (hc _) (xor64 (hc _) (rt_lt _ (hc _)))
theorem thN_E {c d : Nat → Nat} (t : Nat) (h : ∀ j, j < 5 → c j = d j) (x : Nat) : thN t c x = thN t d x := by
  unfold thN
  rw [h _ (by omega), h _ (by omega), h _ (by omega)]
theorem xor_alg1 (a b e d ra rg : Nat) : (a ^^^ (b ^^^ d)) ^^^ ((b ^^^ (e ^^^ ra)) ^^^ (d ^^^ (ra ^^^ rg))) = a ^^^ (e ^^^ rg) := by
  apply Nat.eq_of_testBit_eq
  intro i
  simp only [Nat.testBit_xor]
  cases a.testBit i <;> cases b.testBit i <;> cases e.testBit i <;> cases d.testBit i <;> cases ra.testBit i <;> cases rg.testBit i <;> rfl
theorem xor_alg2 (a b c d e f g h k : Nat) : (a ^^^ (b ^^^ c)) ^^^ ((d ^^^ (e ^^^ f)) ^^^ (g ^^^ (h ^^^ k))) = (a ^^^ (d ^^^ g)) ^^^ ((b ^^^ (e ^^^ h)) ^^^ (c ^^^ (f ^^^ k))) := by
  apply Nat.eq_of_testBit_eq
  intro i
  simp only [Nat.testBit_xor]
  cases a.testBit i <;> cases b.testBit i <;> cases c.testBit i <;> cases d.testBit i <;> cases e.testBit i <;> cases f.testBit i <;> cases g.testBit i <;> cases h.testBit i <;> cases k.testBit i <;> rfl
/-- Twice by t is once by twice as much. -/
theorem thN_twice {c : Nat → Nat} (t : Nat) (hc : ∀ i, c i < 18446744073709551616) (x : Nat) : thN t (thN t c) x = thN (2 * t) c x := by
  have e1 : (x % 5) % 5 = x % 5 := by omega
  have e2 : (x % 5 + 4 * t) % 5 = (x + 4 * t) % 5 := by omega
  have e3 : (x % 5 + t) % 5 = (x + t) % 5 := by omega
  have e4 : ((x + 4 * t) % 5) % 5 = (x + 4 * t) % 5 := by omega
  have e5 : ((x + 4 * t) % 5 + 4 * t) % 5 = (x + 4 * (2 * t)) % 5 := by omega
  have e6 : ((x + 4 * t) % 5 + t) % 5 = x % 5 := by omega
  have e7 : ((x + t) % 5) % 5 = (x + t) % 5 := by omega
  have e8 : ((x + t) % 5 + 4 * t) % 5 = x % 5 := by omega
  have e9 : ((x + t) % 5 + t) % 5 = (x + 2 * t) % 5 := by omega
  unfold thN
  rw [e1, e2, e3, e4, e5, e6, e7, e8, e9, rt_xor t (hc _) (xor64 (hc _) (rt_lt _ (hc _))), rt_xor t (hc _) (rt_lt _ (hc _)), rt_rt t t (hc _), xor_alg1, show t + t = 2 * t by omega]
theorem thN_swap {c : Nat → Nat} (s t : Nat) (hc : ∀ i, c i < 18446744073709551616) (x : Nat) : thN s (thN t c) x = thN t (thN s c) x := by
  have e1 : (x % 5) % 5 = x % 5 := by omega
  have a2 : (x % 5 + 4 * t) % 5 = (x + 4 * t) % 5 := by omega
  have a3 : (x % 5 + t) % 5 = (x + t) % 5 := by omega
  have b2 : (x % 5 + 4 * s) % 5 = (x + 4 * s) % 5 := by omega
  have b3 : (x % 5 + s) % 5 = (x + s) % 5 := by omega
  have a4 : ((x + 4 * s) % 5) % 5 = (x + 4 * s) % 5 := by omega
  have a5 : ((x + 4 * s) % 5 + 4 * t) % 5 = (x + 4 * (s + t)) % 5 := by omega
  have a6 : ((x + 4 * s) % 5 + t) % 5 = (x + 4 * s + t) % 5 := by omega
  have a7 : ((x + s) % 5) % 5 = (x + s) % 5 := by omega
  have a8 : ((x + s) % 5 + 4 * t) % 5 = (x + 4 * t + s) % 5 := by omega
  have a9 : ((x + s) % 5 + t) % 5 = (x + (s + t)) % 5 := by omega
  have b4 : ((x + 4 * t) % 5) % 5 = (x + 4 * t) % 5 := by omega
  have b5 : ((x + 4 * t) % 5 + 4 * s) % 5 = (x + 4 * (s + t)) % 5 := by omega
  have b6 : ((x + 4 * t) % 5 + s) % 5 = (x + 4 * t + s) % 5 := by omega
  have b7 : ((x + t) % 5) % 5 = (x + t) % 5 := by omega
  have b8 : ((x + t) % 5 + 4 * s) % 5 = (x + 4 * s + t) % 5 := by omega
  have b9 : ((x + t) % 5 + s) % 5 = (x + (s + t)) % 5 := by omega
  unfold thN
  rw [e1, a2, a3, a4, a5, a6, a7, a8, a9, b2, b3, b4, b5, b6, b7, b8, b9]
  rw [rt_xor s (hc _) (xor64 (hc _) (rt_lt _ (hc _))), rt_xor s (hc _) (rt_lt _ (hc _)), rt_rt t s (hc _)]
  rw [rt_xor t (hc _) (xor64 (hc _) (rt_lt _ (hc _))), rt_xor t (hc _) (rt_lt _ (hc _)), rt_rt s t (hc _), show t + s = s + t by omega]
  exact xor_alg2 _ _ _ _ _ _ _ _ _
/-- A hundred and twenty-eight times, and sixty-four times: nothing. -/
theorem thN_round {c : Nat → Nat} (hc : ∀ i, c i < 18446744073709551616) (x : Nat) : thN 128 (thN 64 c) x = c (x % 5) := by
  have e1 : (x % 5) % 5 = x % 5 := by omega
  have e2 : (x % 5 + 4 * 64) % 5 = (x + 1) % 5 := by omega
  have e3 : (x % 5 + 64) % 5 = (x + 4) % 5 := by omega
  have e4 : (x + 4 * 128) % 5 = (x + 2) % 5 := by omega
  have e5 : ((x + 2) % 5) % 5 = (x + 2) % 5 := by omega
  have e6 : ((x + 2) % 5 + 4 * 64) % 5 = (x + 3) % 5 := by omega
  have e7 : ((x + 2) % 5 + 64) % 5 = (x + 1) % 5 := by omega
  have e8 : (x + 128) % 5 = (x + 3) % 5 := by omega
  have e9 : ((x + 3) % 5) % 5 = (x + 3) % 5 := by omega
  have f6 : ((x + 3) % 5 + 4 * 64) % 5 = (x + 4) % 5 := by omega
  have f7 : ((x + 3) % 5 + 64) % 5 = (x + 2) % 5 := by omega
  unfold thN
  rw [e4, e8, e1, e2, e3, e5, e6, e7, e9, f6, f7]
  rw [rt_full 64 (by decide) (hc _), rt_full 64 (by decide) (hc _), rt_full 64 (by decide) (hc _), rt_full 128 (by decide) (xor64 (hc _) (xor64 (hc _) (hc _)))]
  generalize c (x % 5) = a
  generalize c ((x + 1) % 5) = b
  generalize c ((x + 2) % 5) = d
  generalize c ((x + 3) % 5) = e
  generalize c ((x + 4) % 5) = f
  apply Nat.eq_of_testBit_eq
  intro i
  simp only [Nat.testBit_xor]
  cases a.testBit i <;> cases b.testBit i <;> cases d.testBit i <;> cases e.testBit i <;> cases f.testBit i <;> rfl
/-- Theta of the columns' sums, a hundred and ninety-one times: as far as 2^k. -/
def upN (c : Nat → Nat) : Nat → Nat → Nat
  | 0 => c
  | k + 1 => if k = 6 then upN c k else thN (2 ^ k) (upN c k)
theorem upN_lt {c : Nat → Nat} (hc : ∀ i, c i < 18446744073709551616) : ∀ k i, upN c k i < 18446744073709551616
  | 0, i => hc i
  | k + 1, i => by
    show (if k = 6 then upN c k else thN (2 ^ k) (upN c k)) i < _
    split
    · exact upN_lt hc k i
    · exact thN_lt _ (upN_lt hc k) i
theorem upN_E {c d : Nat → Nat} (h : ∀ j, j < 5 → c j = d j) : ∀ k j, j < 5 → upN c k j = upN d k j
  | 0, j, hj => h j hj
  | k + 1, j, hj => by
    show (if k = 6 then upN c k else thN (2 ^ k) (upN c k)) j = (if k = 6 then upN d k else thN (2 ^ k) (upN d k)) j
    split
    · exact upN_E h k j hj
    · exact thN_E _ (upN_E h k) j
theorem upN_six {c : Nat → Nat} (hc : ∀ i, c i < 18446744073709551616) : ∀ k, k ≤ 6 → ∀ x, x < 5 → upN (thN 1 c) k x = thN (2 ^ k) c x
  | 0, _, x, _ => rfl
  | k + 1, h, x, hx => by
    show (if k = 6 then upN (thN 1 c) k else thN (2 ^ k) (upN (thN 1 c) k)) x = thN (2 ^ (k + 1)) c x
    rw [if_neg (by omega), thN_E _ (upN_six hc k (by omega)) x, thN_twice (2 ^ k) hc x, show 2 ^ (k + 1) = 2 * 2 ^ k by rw [Nat.pow_succ]; omega]
theorem upN_next (c : Nat → Nat) (k : Nat) (h : k ≠ 6) : upN c (k + 1) = thN (2 ^ k) (upN c k) := if_neg h
theorem upN_skip (c : Nat → Nat) : upN c (6 + 1) = upN c 6 := if_pos rfl
/-- Behind theta: what was there. -/
theorem upN_back {c : Nat → Nat} (hc : ∀ i, c i < 18446744073709551616) (x : Nat) (hx : x < 5) : upN (thN 1 c) 8 x = c x := by
  have h6 : ∀ j, j < 5 → upN (thN 1 c) (6 + 1) j = thN 64 c j := fun j hj => by
    rw [upN_skip, upN_six hc 6 (Nat.le_refl _) j hj, show (2 : Nat) ^ 6 = 64 from rfl]
  have h8 : upN (thN 1 c) (7 + 1) x = thN 128 (upN (thN 1 c) (6 + 1)) x := by rw [upN_next _ 7 (by decide), show (2 : Nat) ^ 7 = 128 from rfl]
  rw [show (8 : Nat) = 7 + 1 from rfl, h8, thN_E 128 h6 x, thN_round hc, Nat.mod_eq_of_lt hx]
theorem upN_swap {c : Nat → Nat} (hc : ∀ i, c i < 18446744073709551616) : ∀ k x, x < 5 → thN 1 (upN c k) x = upN (thN 1 c) k x
  | 0, x, _ => rfl
  | k + 1, x, hx => by
    show thN 1 (if k = 6 then upN c k else thN (2 ^ k) (upN c k)) x = (if k = 6 then upN (thN 1 c) k else thN (2 ^ k) (upN (thN 1 c) k)) x
    split
    · exact upN_swap hc k x hx
    · rw [thN_swap 1 (2 ^ k) (upN_lt hc k) x]
      exact thN_E _ (upN_swap hc k) x
theorem upN_on {c : Nat → Nat} (hc : ∀ i, c i < 18446744073709551616) (x : Nat) (hx : x < 5) : thN 1 (upN c 8) x = c x := by
  rw [upN_swap hc 8 x hx, upN_back hc x hx]
theorem thN_one (c : Nat → Nat) (x : Nat) (hx : x < 5) : thN 1 c x = c x ^^^ dN c x := by
  unfold thN dN
  rw [rt_one, Nat.mod_eq_of_lt hx]
theorem xor_five (a b c d e k : Nat) : (a ^^^ k) ^^^ (b ^^^ k) ^^^ (c ^^^ k) ^^^ (d ^^^ k) ^^^ (e ^^^ k) = (a ^^^ b ^^^ c ^^^ d ^^^ e) ^^^ k := by
  apply Nat.eq_of_testBit_eq
  intro i
  simp only [Nat.testBit_xor]
  cases a.testBit i <;> cases b.testBit i <;> cases c.testBit i <;> cases d.testBit i <;> cases e.testBit i <;> cases k.testBit i <;> rfl
theorem colN_add (f k : Nat → Nat) (j : Nat) (hj : j < 5) : colN (fun i => f i ^^^ k (i % 5)) j = colN f j ^^^ k j := by
  show (f j ^^^ k (j % 5)) ^^^ (f (j + 5) ^^^ k ((j + 5) % 5)) ^^^ (f (j + 10) ^^^ k ((j + 10) % 5)) ^^^ (f (j + 15) ^^^ k ((j + 15) % 5)) ^^^ (f (j + 20) ^^^ k ((j + 20) % 5)) = _
  rw [show j % 5 = j by omega, show (j + 5) % 5 = j by omega, show (j + 10) % 5 = j by omega, show (j + 15) % 5 = j by omega, show (j + 20) % 5 = j by omega]
  exact xor_five _ _ _ _ _ _
def thetaBackN (f : Nat → Nat) (i : Nat) : Nat := f i ^^^ (upN (colN f) 8 (i % 5) ^^^ colN f (i % 5))
theorem thetaBackN_lt {f : Nat → Nat} (hf : ∀ i, f i < 18446744073709551616) (i : Nat) : thetaBackN f i < 18446744073709551616 := xor64 (hf _) (xor64 (upN_lt (colN_lt hf) _ _) (colN_lt hf _))
theorem thetaBackN_E {f g : Nat → Nat} (h : E25 f g) : E25 (thetaBackN f) (thetaBackN g) := fun i hi => by
  unfold thetaBackN
  rw [h i hi, upN_E (colN_E h) 8 _ (by omega), colN_E h _ (by omega)]
theorem colN_theta (f : Nat → Nat) (j : Nat) (hj : j < 5) : colN (thetaN f) j = thN 1 (colN f) j := by
  rw [thN_one _ _ hj]
  exact colN_add f (dN (colN f)) j hj
theorem xor_alg3 (a d u c : Nat) : (a ^^^ d) ^^^ (c ^^^ (c ^^^ d)) = a := by
  apply Nat.eq_of_testBit_eq
  intro i
  simp only [Nat.testBit_xor]
  cases a.testBit i <;> cases d.testBit i <;> cases c.testBit i <;> rfl
theorem theta_back {f : Nat → Nat} (hf : ∀ i, f i < 18446744073709551616) : E25 (thetaBackN (thetaN f)) f := fun i hi => by
  have h1 := colN_theta f
  unfold thetaBackN
  rw [upN_E h1 8 _ (by omega), h1 _ (by omega), upN_back (colN_lt hf) _ (by omega), thN_one _ _ (by omega)]
  exact xor_alg3 _ _ 0 _
theorem xor_alg4 (a u c d : Nat) (h : u ^^^ d = c) : (a ^^^ (u ^^^ c)) ^^^ d = a := by
  subst h
  apply Nat.eq_of_testBit_eq
  intro i
  simp only [Nat.testBit_xor]
  cases a.testBit i <;> cases u.testBit i <;> cases d.testBit i <;> rfl
theorem theta_on {f : Nat → Nat} (hf : ∀ i, f i < 18446744073709551616) : E25 (thetaN (thetaBackN f)) f := fun i hi => by
  have hc := colN_lt hf
  have h1 : ∀ j, j < 5 → colN (thetaBackN f) j = upN (colN f) 8 j := fun j hj => by
    have := colN_add f (fun j => upN (colN f) 8 j ^^^ colN f j) j hj
    rw [show (colN (fun i => f i ^^^ (fun j => upN (colN f) 8 j ^^^ colN f j) (i % 5)) j) = colN (thetaBackN f) j from rfl] at this
    rw [this, Nat.xor_comm (upN (colN f) 8 j)]
    exact xor_cancel _ _
  show thetaBackN f i ^^^ dN (colN (thetaBackN f)) (i % 5) = f i
  rw [dN_E h1]
  unfold thetaBackN
  have h2 := upN_on hc (i % 5) (by omega)
  rw [thN_one _ _ (by omega)] at h2
  exact xor_alg4 _ _ _ _ h2
/-! ### The way back: turns, places, rows -/
def rhoBackN (f : Nat → Nat) (i : Nat) : Nat := rot 64 (f i) (offN i)
theorem rhoBackN_lt {f : Nat → Nat} (hf : ∀ i, f i < 18446744073709551616) (i : Nat) : rhoBackN f i < 18446744073709551616 := rot64 (hf _)
theorem rhoBackN_E {f g : Nat → Nat} (h : E25 f g) : E25 (rhoBackN f) (rhoBackN g) := fun i hi => by unfold rhoBackN; rw [h i hi]
theorem rho_back {f : Nat → Nat} (hf : ∀ i, f i < 18446744073709551616) : E25 (rhoBackN (rhoN f)) f := fun i hi => by
  have := offN_lt i
  unfold rhoBackN rhoN rl
  rw [rot_rot (n := 64) (hf _) (Nat.mod_lt _ (by omega)) this, show ((64 - offN i) % 64 + offN i) % 64 = 0 by omega]
  exact rot_zero (n := 64) (by omega) (hf _)
theorem rho_on {f : Nat → Nat} (hf : ∀ i, f i < 18446744073709551616) : E25 (rhoN (rhoBackN f)) f := fun i hi => by
  have := offN_lt i
  unfold rhoBackN rhoN rl
  rw [rot_rot (n := 64) (hf _) this (Nat.mod_lt _ (by omega)), show (offN i + (64 - offN i) % 64) % 64 = 0 by omega]
  exact rot_zero (n := 64) (by omega) (hf _)
/-- Where the lane came from that stands at i. -/
def piI (i : Nat) : Nat := i / 5 + 5 * ((2 * (i % 5) + 3 * (i / 5)) % 5)
def sgP (i : Nat) : Nat := (i % 5 + 3 * (i / 5)) % 5 + 5 * (i % 5)
theorem sgP_lt (i : Nat) : sgP i < 25 := by unfold sgP; omega
theorem piI_lt {i : Nat} (h : i < 25) : piI i < 25 := by unfold piI; omega
theorem piI_sg (i : Nat) (hi : i < 25) : piI (sgP i) = i := (by decide +kernel : ∀ i, i < 25 → piI (sgP i) = i) i hi
theorem sg_piI (i : Nat) (hi : i < 25) : sgP (piI i) = i := (by decide +kernel : ∀ i, i < 25 → sgP (piI i) = i) i hi
def piBackN (f : Nat → Nat) (i : Nat) : Nat := f (piI i)
theorem piBackN_lt {f : Nat → Nat} (hf : ∀ i, f i < 18446744073709551616) (i : Nat) : piBackN f i < 18446744073709551616 := hf _
theorem piBackN_E {f g : Nat → Nat} (h : E25 f g) : E25 (piBackN f) (piBackN g) := fun i hi => h _ (piI_lt hi)
theorem pi_back (f : Nat → Nat) : E25 (piBackN (piN f)) f := fun i hi => by
  show f (sgP (piI i)) = f i
  rw [sg_piI i hi]
theorem pi_on (f : Nat → Nat) : E25 (piN (piBackN f)) f := fun i hi => by
  show f (piI (sgP i)) = f i
  rw [piI_sg i hi]
theorem ones_sub_bit {b : Nat} (hb : b < 18446744073709551616) (j : Nat) (hj : j < 64) : (18446744073709551615 - b).testBit j = !b.testBit j := by
  have := Nat.testBit_two_pow_sub_succ (n := 64) hb j
  rw [show 2 ^ 64 - (b + 1) = 18446744073709551615 - b by omega] at this
  rw [this]
  simp [hj]
theorem andNotN_bit {a b : Nat} (hb : b < 18446744073709551616) (j : Nat) (hj : j < 64) : (andNotN a b).testBit j = (a.testBit j && !b.testBit j) := by
  unfold andNotN
  rw [Nat.testBit_and, ones_sub_bit hb j hj]
/-- Chi, on a row; and back. -/
def crow (r : Nat → Nat) (x : Nat) : Nat := r x ^^^ andNotN (r ((x + 2) % 5)) (r ((x + 1) % 5))
def brow (r : Nat → Nat) (x : Nat) : Nat := r x ^^^ andNotN (r ((x + 2) % 5) ^^^ andNotN (r ((x + 4) % 5)) (r ((x + 3) % 5))) (r ((x + 1) % 5))
theorem crow_lt {r : Nat → Nat} (hr : ∀ i, r i < 18446744073709551616) (i : Nat) : crow r i < 18446744073709551616 := xor64 (hr _) (andNotN_lt _ (hr _))
theorem brow_lt {r : Nat → Nat} (hr : ∀ i, r i < 18446744073709551616) (i : Nat) : brow r i < 18446744073709551616 := xor64 (hr _) (andNotN_lt _ (xor64 (hr _) (andNotN_lt _ (hr _))))
theorem brow_E {r s : Nat → Nat} (h : ∀ j, j < 5 → r j = s j) (x : Nat) (hx : x < 5) : brow r x = brow s x := by
  unfold brow
  rw [h x hx, h _ (by omega), h _ (by omega), h _ (by omega), h _ (by omega)]
theorem crow_bit {r : Nat → Nat} (hr : ∀ i, r i < 18446744073709551616) (x j : Nat) (hj : j < 64) : (crow r x).testBit j = ((r x).testBit j ^^ ((r ((x + 2) % 5)).testBit j && !(r ((x + 1) % 5)).testBit j)) := by
  unfold crow
  rw [Nat.testBit_xor, andNotN_bit (hr _) j hj]
theorem brow_bit {r : Nat → Nat} (hr : ∀ i, r i < 18446744073709551616) (x j : Nat) (hj : j < 64) :
    (brow r x).testBit j = ((r x).testBit j ^^ (((r ((x + 2) % 5)).testBit j ^^ ((r ((x + 4) % 5)).testBit j && !(r ((x + 3) % 5)).testBit j)) && !(r ((x + 1) % 5)).testBit j)) := by
  unfold brow
  rw [Nat.testBit_xor, andNotN_bit (hr _) j hj, Nat.testBit_xor, andNotN_bit (hr _) j hj]
theorem row_back {r : Nat → Nat} (hr : ∀ i, r i < 18446744073709551616) (x : Nat) (hx : x < 5) : brow (crow r) x = r x := by
  apply eq_of_bits (n := 64) (brow_lt (crow_lt hr) x) (hr x)
  intro j hj
  have h5 : x = 0 ∨ x = 1 ∨ x = 2 ∨ x = 3 ∨ x = 4 := by omega
  rw [brow_bit (crow_lt hr) x j hj, crow_bit hr _ j hj, crow_bit hr _ j hj, crow_bit hr _ j hj, crow_bit hr _ j hj, crow_bit hr _ j hj]
  rcases h5 with rfl | rfl | rfl | rfl | rfl <;>
  (simp only [Nat.reduceAdd, Nat.reduceMod]
   cases (r 0).testBit j <;> cases (r 1).testBit j <;> cases (r 2).testBit j <;> cases (r 3).testBit j <;> cases (r 4).testBit j <;> rfl)
theorem row_on {r : Nat → Nat} (hr : ∀ i, r i < 18446744073709551616) (x : Nat) (hx : x < 5) : crow (brow r) x = r x := by
  apply eq_of_bits (n := 64) (crow_lt (brow_lt hr) x) (hr x)
  intro j hj
  have h5 : x = 0 ∨ x = 1 ∨ x = 2 ∨ x = 3 ∨ x = 4 := by omega
  rw [crow_bit (brow_lt hr) x j hj, brow_bit hr _ j hj, brow_bit hr _ j hj, brow_bit hr _ j hj]
  rcases h5 with rfl | rfl | rfl | rfl | rfl <;>
  (simp only [Nat.reduceAdd, Nat.reduceMod]
   cases (r 0).testBit j <;> cases (r 1).testBit j <;> cases (r 2).testBit j <;> cases (r 3).testBit j <;> cases (r 4).testBit j <;> rfl)
/-- Row y of a state. -/
def rowN (f : Nat → Nat) (y x : Nat) : Nat := f (5 * y + x)
def chiBackN (f : Nat → Nat) (i : Nat) : Nat := brow (rowN f (i / 5)) (i % 5)
theorem chiBackN_lt {f : Nat → Nat} (hf : ∀ i, f i < 18446744073709551616) (i : Nat) : chiBackN f i < 18446744073709551616 := brow_lt (fun _ => hf _) _
theorem chiBackN_E {f g : Nat → Nat} (h : E25 f g) : E25 (chiBackN f) (chiBackN g) := fun i hi => brow_E (fun j hj => h _ (by omega)) _ (by omega)
theorem chiN_row (f : Nat → Nat) (y x : Nat) (hy : y < 5) (hx : x < 5) : chiN f (5 * y + x) = crow (rowN f y) x := by
  unfold chiN crow rowN placeN
  rw [show ((5 * y + x) % 5 + 2) % 5 + 5 * ((5 * y + x) / 5 % 5) = 5 * y + (x + 2) % 5 by omega, show ((5 * y + x) % 5 + 1) % 5 + 5 * ((5 * y + x) / 5 % 5) = 5 * y + (x + 1) % 5 by omega]
theorem chiBackN_row (f : Nat → Nat) (y x : Nat) (hx : x < 5) : chiBackN f (5 * y + x) = brow (rowN f y) x := by
  unfold chiBackN
  rw [show (5 * y + x) / 5 = y by omega, show (5 * y + x) % 5 = x by omega]
theorem chi_back {f : Nat → Nat} (hf : ∀ i, f i < 18446744073709551616) : E25 (chiBackN (chiN f)) f := fun i hi => by
  obtain ⟨y, hy⟩ : ∃ y, y = i / 5 := ⟨_, rfl⟩
  obtain ⟨x, hx⟩ : ∃ x, x = i % 5 := ⟨_, rfl⟩
  have hy5 : y < 5 := by omega
  rw [show i = 5 * y + x by omega, chiBackN_row _ _ _ (by omega), brow_E (r := rowN (chiN f) y) (s := crow (rowN f y)) (fun j hj => chiN_row f y j hy5 hj) x (by omega), row_back (r := rowN f y) (fun _ => hf _) x (by omega)]
  rfl
theorem crow_E {r s : Nat → Nat} (h : ∀ j, j < 5 → r j = s j) (x : Nat) (hx : x < 5) : crow r x = crow s x := by
  unfold crow
  rw [h x hx, h _ (by omega), h _ (by omega)]
theorem chi_on {f : Nat → Nat} (hf : ∀ i, f i < 18446744073709551616) : E25 (chiN (chiBackN f)) f := fun i hi => by
  obtain ⟨y, hy⟩ : ∃ y, y = i / 5 := ⟨_, rfl⟩
  obtain ⟨x, hx⟩ : ∃ x, x = i % 5 := ⟨_, rfl⟩
  have hy5 : y < 5 := by omega
  rw [show i = 5 * y + x by omega, chiN_row _ _ _ hy5 (by omega), crow_E (r := rowN (chiBackN f) y) (s := brow (rowN f y)) (fun j hj => chiBackN_row f y j hj) x (by omega), row_on (r := rowN f y) (fun _ => hf _) x (by omega)]
  rfl
theorem iota_back (f : Nat → Nat) (r : Int) : E25 (iotaN (iotaN f r) r) f := fun i hi => by
  unfold iotaN
  by_cases h : i = 0
  · subst h; simp [Nat.xor_assoc]
  · simp [h]
/-! ### A round back -/
def kBack (f : Nat → Nat) (r : Int) : Nat → Nat := thetaBackN (rhoBackN (piBackN (chiBackN (iotaN f r))))
theorem kBack_lt {f : Nat → Nat} (hf : ∀ i, f i < 18446744073709551616) (r : Int) (i : Nat) : kBack f r i < 18446744073709551616 :=
  thetaBackN_lt (rhoBackN_lt (piBackN_lt (chiBackN_lt (iotaN_lt hf r)))) i
theorem kBack_E {f g : Nat → Nat} (h : E25 f g) (r : Int) : E25 (kBack f r) (kBack g r) := thetaBackN_E (rhoBackN_E (piBackN_E (chiBackN_E (iotaN_E h r))))
theorem round_back {f : Nat → Nat} (hf : ∀ i, f i < 18446744073709551616) (r : Int) : E25 (kRound (kBack f r) r) f := by
  have h1 := iotaN_lt hf r
  have h2 := chiBackN_lt h1
  have h3 := piBackN_lt h2
  have h4 := rhoBackN_lt h3
  have e1 : E25 (rhoN (thetaN (kBack f r))) (piBackN (chiBackN (iotaN f r))) := (rhoN_E (theta_on h4)).trans (rho_on h3)
  have e2 : E25 (piN (rhoN (thetaN (kBack f r)))) (chiBackN (iotaN f r)) := (piN_E e1).trans (pi_on _)
  have e3 : E25 (chiN (piN (rhoN (thetaN (kBack f r))))) (iotaN f r) := (chiN_E e2).trans (chi_on h1)
  exact (iotaN_E e3 r).trans (iota_back f r)
theorem back_round {f : Nat → Nat} (hf : ∀ i, f i < 18446744073709551616) (r : Int) : E25 (kBack (kRound f r) r) f := by
  have h1 := thetaN_lt hf
  have h2 := rhoN_lt h1
  have h3 := piN_lt h2
  have h4 := chiN_lt h3
  have e1 : E25 (chiBackN (iotaN (kRound f r) r)) (piN (rhoN (thetaN f))) := (chiBackN_E (iota_back (chiN (piN (rhoN (thetaN f)))) r)).trans (chi_back h3)
  have e2 : E25 (piBackN (chiBackN (iotaN (kRound f r) r))) (rhoN (thetaN f)) := (piBackN_E e1).trans (pi_back _)
  have e3 : E25 (rhoBackN (piBackN (chiBackN (iotaN (kRound f r) r)))) (thetaN f) := (rhoBackN_E e2).trans (rho_back h1)
  exact (thetaBackN_E e3).trans (theta_back hf)
theorem kRound_inj {f g : Nat → Nat} (hf : ∀ i, f i < 18446744073709551616) (hg : ∀ i, g i < 18446744073709551616) (r : Int) (h : E25 (kRound f r) (kRound g r)) : E25 f g :=
  (back_round hf r).symm.trans ((kBack_E h r).trans (back_round hg r))
theorem kIt_inj {f g : Nat → Nat} (hf : ∀ i, f i < 18446744073709551616) (hg : ∀ i, g i < 18446744073709551616) (k : Nat) : ∀ n, E25 (kIt f k n) (kIt g k n) → E25 f g
  | 0, h => h
  | n + 1, h => kIt_inj hf hg k n (kRound_inj (kIt_lt hf k n) (kIt_lt hg k n) _ h)
theorem kIt_E {f g : Nat → Nat} (h : E25 f g) (k : Nat) : ∀ n, E25 (kIt f k n) (kIt g k n)
  | 0 => h
  | n + 1 => kRound_E (kIt_E h k n) _
end Go.Proofs.YtknogmianfnfoaaDoor.L64
