/- Layer 3: the span of a fraction, as numbers. -/
import Derived.Test.YtknbhpnhnhfbpaaSMath3
import Derived.Test.YtknbhpnhnhfbpaaS4
import Derived.Test.YtknbhpnhnhfbpaaRLawMath2
namespace Go.Proofs.Ytknbhpnhnhfbpaa
set_option linter.unusedVariables false

theorem ofS_eq {n d u : Int} (d0 : 1 ≤ d) (u0 : 1 ≤ u) (u1 : u ≤ 1099511627776) : ofS n d u = if ((n * u).natAbs : Int) ≤ 1152921504606846976 * d then (n * u / d, -(-(n * u) / d), 0) else (0, 0, 5) := by
  unfold ofS
  rw [if_neg (by omega)]
  have e : qT n u d = if ((n * u).natAbs : Int) ≤ 1152921504606846976 * d then (n * u / d, -(-(n * u) / d), true) else (0, 0, false) := by
    unfold qT qN qC
    simp only [show ¬ d < 0 by omega, if_false, show ((d.natAbs : Nat) : Int) = d by omega]
  show (if (qT n u d).2.2 = true then _ else _) = _
  rw [e]
  generalize n * u = N
  by_cases h : (N.natAbs : Int) ≤ 1152921504606846976 * d
  · rw [if_pos h, if_pos rfl, if_pos h]
    have a : N / d ≤ 1152921504606846976 := by
      have : N / d < 1152921504606846977 := (Int.ediv_lt_iff_lt_mul (by omega)).2 (by omega)
      omega
    have b : -N / d ≤ 1152921504606846976 := by
      have : -N / d < 1152921504606846977 := (Int.ediv_lt_iff_lt_mul (by omega)).2 (by omega)
      omega
    show (min 1152921504606846976 (N / d), max (-1152921504606846976) (-(-N / d)), (0 : Int)) = _
    rw [show min 1152921504606846976 (N / d) = N / d by omega, show max (-1152921504606846976) (-(-N / d)) = -(-N / d) by omega]
  · rw [if_neg h, if_neg (by simp), if_neg h]
theorem div_cross {N d p q : Int} (d0 : 0 < d) (q0 : 0 < q) (h : p * d = N * q) : N / d = p / q := by
  have a := Int.mul_ediv_add_emod p q
  have r0 := Int.emod_nonneg p (show q ≠ 0 by omega)
  have r1 := Int.emod_lt_of_pos p q0
  refine ediv_is d0 ?_ ?_
  · have k : q * (d * (p / q)) ≤ q * N := by
      have := Int.mul_le_mul_of_nonneg_right (show q * (p / q) ≤ p by omega) (show 0 ≤ d by omega)
      rw [h] at this
      have e1 : q * (d * (p / q)) = q * (p / q) * d := by grind
      have e2 : q * N = N * q := Int.mul_comm _ _
      omega
    exact Int.le_of_mul_le_mul_left k q0
  · have k : q * N < q * (d * (p / q) + d) := by
      have := Int.mul_lt_mul_of_pos_right (show p < q * (p / q) + q by omega) d0
      rw [h] at this
      have e1 : q * (d * (p / q) + d) = (q * (p / q) + q) * d := by grind
      have e2 : q * N = N * q := Int.mul_comm _ _
      omega
    exact Int.lt_of_mul_lt_mul_left k (by omega)
theorem frac_fits {n d u pn pd : Int} (d0 : 1 ≤ d) (vp : Vld pn pd) (h : pn * (d * 1) = n * u * pd) : ((n * u).natAbs : Int) ≤ 1152921504606846976 * d := by
  rw [Int.mul_one] at h
  have p1 := vp.d1; have p2 := vp.n1; have p3 := vp.n2
  generalize n * u = N at *
  have a := Int.mul_le_mul_of_nonneg_right p3 (show 0 ≤ d by omega)
  have b := Int.mul_le_mul_of_nonneg_right p2 (show 0 ≤ d by omega)
  rw [h] at a b
  have key : ∀ x : Int, 0 ≤ x → x ≤ x * pd := fun x hx => by have := Int.mul_le_mul_of_nonneg_left p1 hx; omega
  rcases Int.lt_or_le N 0 with c | c
  · have := key (-N) (by omega)
    rw [Int.neg_mul] at this
    omega
  · have := key N c
    omega
theorem wide_eq {l h u : Int} (lh : l ≤ h) (u0 : 1 ≤ u) (u1 : u ≤ 1099511627776) : mulS l h u u = timS l h u 1 := by
  rw [mulS_eq]
  unfold timS
  rw [if_neg (show ¬ (1 : Int) = 0 by decide), if_pos (⟨by unfold isN; exact decide_eq_true (by omega), by decide⟩ : isN u = true ∧ isN 1 = true)]
  unfold mul4
  by_cases a : inM (l * u)
  · rw [arS_yes a]
    by_cases b : inM (h * u)
    · rw [arS_yes b, if_pos ⟨a, a, b, b⟩]
      unfold inM at a b
      show _ = (min (min 1152921504606846976 (l * u)) (h * u), max (max (-1152921504606846976) (l * u)) (h * u), (0 : Int))
      rw [show min 1152921504606846976 (l * u) = l * u by omega, show max (-1152921504606846976) (l * u) = l * u by omega]
      rw [show min (min (min (l * u) (l * u)) (h * u)) (h * u) = min (l * u) (h * u) by omega, show max (max (max (l * u) (l * u)) (h * u)) (h * u) = max (l * u) (h * u) by omega]
    · rw [arS_no b, if_neg (fun g => b g.2.2.1)]
  · rw [arS_no a, if_neg (fun g => a g.1)]
theorem wide_in {n d u w1 w2 : Int} (d0 : 1 ≤ d) (u0 : 1 ≤ u) (h : mulS (n / d) (-(-n / d)) u u = (w1, w2, 0)) : w1 ≤ n * u / d ∧ -(-(n * u) / d) ≤ w2 := by
  rw [mulS_eq] at h
  obtain ⟨_, _, _, _, m5, m6⟩ := mul4_ok h
  have a : n / d * u ≤ n * u / d := by
    rw [Int.le_ediv_iff_mul_le (by omega)]
    have := Int.mul_le_mul_of_nonneg_right (Int.ediv_mul_le n (show d ≠ 0 by omega)) (show 0 ≤ u by omega)
    rw [Int.mul_right_comm]; exact this
  have b : -n / d * u ≤ -(n * u) / d := by
    rw [Int.le_ediv_iff_mul_le (by omega)]
    have := Int.mul_le_mul_of_nonneg_right (Int.ediv_mul_le (-n) (show d ≠ 0 by omega)) (show 0 ≤ u by omega)
    rw [Int.mul_right_comm, ← Int.neg_mul]; exact this
  rw [Int.neg_mul] at m5 m6
  constructor
  · omega
  · omega

end Go.Proofs.Ytknbhpnhnhfbpaa
