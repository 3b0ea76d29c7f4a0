/- Layer 9: sums of products by signs (for the reference's Zero). -/
import Derived.Test.YtcghjjfpjiacfaaDoorVLr
namespace Go.Proofs.YtcghjjfpjiacfaaDoor
set_option linter.unusedVariables false

/-- The sum of the sizes of the first k products that are not negative; and of the others. -/
def sgS (x d : Pt) (same : Bool) : Nat → Int
  | 0 => 0
  | k + 1 => sgS x d same k + (if (decide (x.at k < 0) == decide (d.at k < 0)) = same then ((x.at k).natAbs : Int) * ((d.at k).natAbs : Int) else 0)
theorem sz_mul (a b : Int) : ((a.natAbs : Int) * (b.natAbs : Int)) = if (decide (a < 0) == decide (b < 0)) = true then a * b else -(a * b) := by
  by_cases h1 : a < 0 <;> by_cases h2 : b < 0 <;> simp only [h1, h2, decide_true, decide_false]
  · rw [show (a.natAbs : Int) = -a by omega, show (b.natAbs : Int) = -b by omega]; simp <;> grind
  · rw [show (a.natAbs : Int) = -a by omega, show (b.natAbs : Int) = b by omega]; simp <;> grind
  · rw [show (a.natAbs : Int) = a by omega, show (b.natAbs : Int) = -b by omega]; simp <;> grind
  · rw [show (a.natAbs : Int) = a by omega, show (b.natAbs : Int) = b by omega]; simp
theorem sg_step (x d : Pt) (k : Nat) : sgS x d true (k + 1) - sgS x d false (k + 1) = sgS x d true k - sgS x d false k + x.at k * d.at k := by
  show sgS x d true k + _ - (sgS x d false k + _) = _
  have h := sz_mul (x.at k) (d.at k)
  cases hb : (decide (x.at k < 0) == decide (d.at k < 0))
  · rw [hb] at h
    simp at h ⊢
    omega
  · rw [hb] at h
    simp at h ⊢
    omega
theorem sg_dot (x d : Pt) : sgS x d true 3 - sgS x d false 3 = x.dot d := by
  rw [sg_step, sg_step, sg_step]
  show (0 : Int) - 0 + x.x * d.x + x.y * d.y + x.z * d.z = x.x * d.x + x.y * d.y + x.z * d.z
  omega
theorem sg_zero3 (x d : Pt) : x.dot d = 0 ↔ sgS x d true 3 = sgS x d false 3 := by
  rw [← sg_dot]; omega
theorem sg_bd {x d : Pt} (hx : lim3 x 8796093022208) (hd : lim3 d 2097152) (s : Bool) : ∀ k, k ≤ 3 → 0 ≤ sgS x d s k ∧ sgS x d s k ≤ k * 18446744073709551616
  | 0, _ => by show 0 ≤ (0 : Int) ∧ (0 : Int) ≤ _; omega
  | k + 1, h => by
    have ih := sg_bd hx hd s k (by omega)
    have a1 := hx k (by omega)
    have b1 := hd k (by omega)
    have m1 := Int.mul_le_mul (show ((x.at k).natAbs : Int) ≤ 8796093022208 by omega) (show ((d.at k).natAbs : Int) ≤ 2097152 by omega) (by omega) (by omega)
    have m0 : 0 ≤ ((x.at k).natAbs : Int) * ((d.at k).natAbs : Int) := Int.mul_nonneg (by omega) (by omega)
    show 0 ≤ sgS x d s k + _ ∧ sgS x d s k + _ ≤ _
    split <;> omega
end Go.Proofs.YtcghjjfpjiacfaaDoor
