/- The reference of layer 2: the product of two words; opposites, integers as fractions. -/
import Derived.Test.YtdbmlkkpffoadaaRRef1
namespace Go.Proofs.Ytdbmlkkpffoadaa
set_option linter.unusedVariables false
open Go.RowKit Go.Shelf

theorem half_mul {a b : Int} (a0 : 0 ≤ a) (a1 : a < 4294967296) (b0 : 0 ≤ b) (b1 : b < 4294967296) : 0 ≤ a * b ∧ a * b ≤ 18446744065119617025 := by
  have := Int.mul_le_mul (show a ≤ 4294967295 by omega) (show b ≤ 4294967295 by omega) b0 (by omega)
  exact ⟨Int.mul_nonneg a0 b0, by omega⟩

end Go.Proofs.Ytdbmlkkpffoadaa
