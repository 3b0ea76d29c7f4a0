/- The reference of layer 2: magnitudes of two words: order, sums, differences, halves, products. -/
import Derived.Test.YtdbmlkkpffoadaaRLawMath2
namespace Go.Proofs.Ytdbmlkkpffoadaa
set_option linter.unusedVariables false
open Go.RowKit Go.Shelf

theorem less_w {x y : Int} (x0 : 0 ≤ x) (x1 : x < 340282366920938463463374607431768211456) (y0 : 0 ≤ y) (y1 : y < 340282366920938463463374607431768211456) : (x < y) ↔ (hiW x < hiW y ∨ (hiW x = hiW y ∧ loW x < loW y)) := by
  unfold hiW loW; omega

theorem rplus_w (x y : Int) : (if 18446744073709551616 ≤ loW x + loW y then IntKind.u64.wrap (IntKind.u64.wrap (hiW x + hiW y) + 1) else IntKind.u64.wrap (hiW x + hiW y)) = hiW (x + y) ∧ IntKind.u64.wrap (loW x + loW y) = loW (x + y) := by
  simp only [IntKind.wrap_u64]
  unfold hiW loW
  split <;> omega
theorem rminus_w (x y : Int) : (if loW x < loW y then IntKind.u64.wrap (IntKind.u64.wrap (hiW x - hiW y) - 1) else IntKind.u64.wrap (hiW x - hiW y)) = hiW (x - y) ∧ IntKind.u64.wrap (loW x - loW y) = loW (x - y) := by
  simp only [IntKind.wrap_u64]
  unfold hiW loW
  split <;> omega

theorem half_w {x : Int} (x0 : 0 ≤ x) (x1 : x < 340282366920938463463374607431768211456) : hiW x / 2 = hiW (x / 2) ∧ IntKind.u64.wrap (loW x / 2 + IntKind.u64.wrap (hiW x * 9223372036854775808)) = loW (x / 2) := by
  simp only [IntKind.wrap_u64]
  unfold hiW loW
  omega

end Go.Proofs.Ytdbmlkkpffoadaa
