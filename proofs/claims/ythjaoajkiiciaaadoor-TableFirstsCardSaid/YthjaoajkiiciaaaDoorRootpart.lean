/- Layer 5: the law on roots, whole, and behind the point. -/
import Derived.Test.YthjaoajkiiciaaaDoorRefpart
namespace Go.Proofs.YthjaoajkiiciaaaDoor
open Go.RowKit
set_option linter.unusedVariables false
set_option linter.unusedSimpArgs false
theorem whole_le {r s n p : Nat} (h1 : r ^ n ≤ p) (h2 : p < (s + 1) ^ n) : r ≤ s := by
  rcases Nat.lt_or_ge s r with h | h
  · exact absurd (Nat.pow_le_pow_left (show s + 1 ≤ r from h) n) (by omega)
  · exact h
theorem whole_uniq {r s n p : Nat} (h1 : r ^ n ≤ p) (h2 : p < (r + 1) ^ n) (h3 : s ^ n ≤ p) (h4 : p < (s + 1) ^ n) : r = s := Nat.le_antisymm (whole_le h1 h4) (whole_le h3 h2)
theorem refWhole_is (p n R : Nat) (hn2 : 2 ≤ n) (hn : n ≤ 3) (hp : p ≤ 1048576) (hR : IsRoot n p R) (w : World) :
    Calls Tryd.prog 20 #[.int .u64 (p : Int), .int .i64 (n : Int)] w fun e w' => e = .returned (.int .u64 (R / 18446744073709551616 : Nat)) ∧ Below w.heap.size w w' :=
  (refWhole_any p n (by omega) hn hp w).mono fun e w' ⟨⟨r, he, h1, h2⟩, hb⟩ => by
    obtain ⟨h3, h4⟩ := whole_root hR
    rw [← whole_uniq h1 h2 h3 h4]
    exact ⟨he, hb⟩
end Go.Proofs.YthjaoajkiiciaaaDoor
