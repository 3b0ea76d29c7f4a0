/- Cmp, Floor, Ceil and Make of package ratio. -/
import Derived.Test.YtdbmlkkpffoadaaROps
namespace Go.Proofs.Ytdbmlkkpffoadaa
set_option linter.unusedVariables false
open Go.RowKit Go.Shelf

def cmpT (an ad bn bd : Int) : Int × Int := if vB an ad = true ∧ vB bn bd = true then (sgn (an * bd + -bn * ad), 0) else (0, 1)
def floorT (n d : Int) : Int × Int := if vB n d = true then (n / d, 0) else (0, 1)
def ceilT (n d : Int) : Int × Int := if vB n d = true then (-(-n / d), 0) else (0, 1)
def makeT (num den : Int) : Int × Int × Int := if den = 0 then (0, 0, 16) else redT (if den < 0 then -num else num) (den.natAbs : Int)
theorem two {a b c d : Int} (h : (a, b) = (c, d)) : a = c ∧ b = d := by injection h with h1 h2; exact ⟨h1, h2⟩

theorem ret_k {k k' e : Int} (h : k' = k) : Ending.returned (.tuple #[.int .i64 k, .int .i64 e]) = .returned (.tuple #[.int .i64 k', .int .i64 e]) := by rw [h]

theorem floor_go {n d q r : Int} (hd : 0 < d) (h : d * q + r = n) (h1 : r < d) (h2 : -d < r) : n / d = if r < 0 then q - 1 else q := by
  split
  · have e : n = (r + d) + d * (q - 1) := by rw [Int.mul_sub, Int.mul_one]; omega
    rw [e, Int.add_mul_ediv_left _ _ (by omega), Int.ediv_eq_zero_of_lt (by omega) (by omega)]; omega
  · have e : n = r + d * q := by omega
    rw [e, Int.add_mul_ediv_left _ _ (by omega), Int.ediv_eq_zero_of_lt (by omega) (by omega)]; omega
theorem ceil_go {n d q r : Int} (hd : 0 < d) (h : d * q + r = n) (h1 : r < d) (h2 : -d < r) : -(-n / d) = if 0 < r then q + 1 else q := by
  have := floor_go (n := -n) (d := d) (q := -q) (r := -r) hd (by rw [Int.mul_neg]; omega) (by omega) (by omega)
  rw [this]
  split <;> split <;> omega

theorem tq_bd {n d : Int} (h1 : -1152921504606846976 ≤ n) (h2 : n ≤ 1152921504606846976) : -1152921504606846976 ≤ n.tdiv d ∧ n.tdiv d ≤ 1152921504606846976 := by
  have := Int.natAbs_tdiv_le_natAbs n d
  omega

end Go.Proofs.Ytdbmlkkpffoadaa
