/- Layer 4: what two eliminations of one matrix share; sums of products are exact. -/
import Derived.Test.YtdbmlkkpffoadaaLM
import Derived.Test.YtdbmlkkpffoadaaRLawMath
namespace Go.Proofs.Ytdbmlkkpffoadaa
set_option linter.unusedVariables false

/-- The share of a number is a valid fraction, and exact. -/
theorem make_val (a D : Int) (hD : D ≠ 0) (a0 : -1152921504606846976 ≤ a) (a1 : a ≤ 1152921504606846976) (d0 : -1152921504606846976 ≤ D) (d1 : D ≤ 1152921504606846976) : ∃ x y, makeT a D = (x, y, 0) ∧ Vld x y ∧ x * D = a * y := by
  unfold makeT
  rw [if_neg hD]
  obtain ⟨P, hP⟩ : ∃ P, (if D < 0 then -a else a) = P := ⟨_, rfl⟩
  obtain ⟨Q, hQ⟩ : ∃ Q, (D.natAbs : Int) = Q := ⟨_, rfl⟩
  rw [hP, hQ]
  have q0 : 0 < Q := by omega
  have q1 : Q ≤ 1152921504606846976 := by omega
  have p0 : -1152921504606846976 ≤ P ∧ P ≤ 1152921504606846976 := by
    rw [← hP]; split <;> omega
  obtain ⟨g, g0, eg, e1, e2, co, d⟩ := gcd_parts P Q q0
  unfold redT
  rw [← eg]
  have b1 : ∀ z : Int, 0 ≤ z → z ≤ g * z := fun z hz => by
    have := Int.mul_le_mul_of_nonneg_right (show 1 ≤ g by omega) hz
    omega
  have c1 : P / g ≤ 1152921504606846976 := by
    rcases Int.lt_or_le 0 (P / g) with h | h
    · have := b1 (P / g) (by omega); omega
    · omega
  have c2 : -1152921504606846976 ≤ P / g := by
    rcases Int.lt_or_le (P / g) 0 with h | h
    · have := b1 (-(P / g)) (by omega)
      rw [Int.mul_neg] at this
      omega
    · omega
  have c3 : Q / g ≤ 1152921504606846976 := by have := b1 (Q / g) (by omega); omega
  refine ⟨P / g, Q / g, by unfold fitT; rw [if_pos ⟨c2, c1, c3⟩], ⟨by omega, c3, c2, c1, co⟩, ?_⟩
  have key : P / g * Q = P * (Q / g) := by
    have h1 : P / g * Q = P / g * (g * (Q / g)) := by rw [← e2]
    have h2 : P * (Q / g) = (g * (P / g)) * (Q / g) := by rw [← e1]
    rw [h1, h2]; grind
  rcases Int.lt_or_le D 0 with h | h
  · rw [if_pos h] at hP
    have hQ2 : Q = -D := by omega
    rw [hQ2] at key ⊢
    rw [← hP] at key ⊢
    rw [Int.mul_neg, Int.neg_mul] at key
    omega
  · rw [if_neg (by omega)] at hP
    have hQ2 : Q = D := by omega
    rw [hQ2] at key ⊢
    rw [← hP] at key ⊢
    exact key

end Go.Proofs.Ytdbmlkkpffoadaa
