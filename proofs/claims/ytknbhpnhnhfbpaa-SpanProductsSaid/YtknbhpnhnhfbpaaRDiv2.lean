/- Division of two words by one, whole; the remainder and the quotient of package ratio's wide numbers. -/
import Derived.Test.YtknbhpnhnhfbpaaRDiv
namespace Go.Proofs.Ytknbhpnhnhfbpaa
set_option linter.unusedVariables false
open Go.RowKit Go.Shelf

theorem below_drew {a w : World} (h : Below a.heap.size a w) (k : Nat) : Below a.heap.size a (w.drewN k) := h.trans ⟨rfl, rfl, rfl, Nat.le_refl _, fun _ _ => rfl⟩

theorem div64_any (hi lo y : Int) (w : World) (h0 : 0 ≤ hi) (h1 : hi < y) (l0 : 0 ≤ lo) (l1 : lo < 18446744073709551616) (y1 : y < 18446744073709551616) :
    Calls Try.prog 71 #[.int .u64 hi, .int .u64 lo, .int .u64 y] w fun e w' => e = .returned (.tuple #[.int .u64 ((hi * 18446744073709551616 + lo) / y), .int .u64 ((hi * 18446744073709551616 + lo) % y)]) ∧ ∃ k, w' = w.drewN k := by
  by_cases hz : hi = 0
  · subst hz
    refine (div64_zero lo y w l0 l1 h1 y1).mono fun e w' ⟨he, hw⟩ => ⟨?_, hw⟩
    rw [he]; simp
  · obtain ⟨s, hs, s0, s1, p0, p1⟩ := lz_norm (y := y) (by omega) y1
    exact div64_pos hi lo y s w (by omega) h1 l0 l1 y1 s0 s1 p0 p1 (fun w => (Try.bits_LeadingZeros64 y w (by omega) (by omega)).mono fun e w' ⟨he, hw⟩ => ⟨by rw [he, hs], hw.symm⟩)

/-- The value modulo y does not hang on the high word's own multiple of y. -/
theorem rem_eq {z y : Int} (z0 : 0 ≤ z) (z1 : z < 340282366920938463463374607431768211456) (hy : 0 < y) : (hiW z % y * 18446744073709551616 + loW z) % y = z % y := by
  have e := W_of z0 z1
  rw [Int.add_emod, Int.mul_emod, Int.emod_emod_of_dvd _ (Int.dvd_refl y), ← Int.mul_emod, ← Int.add_emod, ← e]
theorem quo_eq {z y : Int} (z0 : 0 ≤ z) (z1 : z < 340282366920938463463374607431768211456) (hy : 0 < y) (y1 : y < 18446744073709551616) : hiW (z / y) = hiW z / y ∧ loW (z / y) = (hiW z % y * 18446744073709551616 + loW z) / y := by
  have e := W_of z0 z1
  obtain ⟨a1, a2⟩ := hiW_bd z
  obtain ⟨b1, b2⟩ := loW_bd z
  have m0 := Int.emod_nonneg (hiW z) (show y ≠ 0 by omega)
  have m1 := Int.emod_lt_of_pos (hiW z) hy
  have d0 : 0 ≤ hiW z / y := Int.ediv_nonneg a1 (by omega)
  have d1 : hiW z / y ≤ hiW z := Int.ediv_le_self _ a1
  have q0 : 0 ≤ (hiW z % y * 18446744073709551616 + loW z) / y := Int.ediv_nonneg (by omega) (by omega)
  have q1 : (hiW z % y * 18446744073709551616 + loW z) / y < 18446744073709551616 := Int.ediv_lt_of_lt_mul hy (by omega)
  refine W_eq d0 (by omega) q0 q1 ?_
  have f := Int.mul_ediv_add_emod (hiW z) y
  have g : z = (hiW z % y * 18446744073709551616 + loW z) + y * (hiW z / y * 18446744073709551616) := by
    have : y * (hiW z / y * 18446744073709551616) = y * (hiW z / y) * 18446744073709551616 := by grind
    rw [this]
    omega
  conv => lhs; rw [g]
  rw [Int.add_mul_ediv_left _ _ (by omega)]
  omega

theorem over_neg {z y : Int} (h : z < 0) : -((z.natAbs : Int) / y) = z.tdiv y := by
  have e : z = -(z.natAbs : Int) := by omega
  conv => rhs; rw [e, Int.neg_tdiv, Int.tdiv_eq_ediv_of_nonneg (by omega)]
theorem over_pos {z y : Int} (h : ¬ z < 0) : (z.natAbs : Int) / y = z.tdiv y := by
  have e : z = (z.natAbs : Int) := by omega
  conv => rhs; rw [e, Int.tdiv_eq_ediv_of_nonneg (by omega)]

end Go.Proofs.Ytknbhpnhnhfbpaa
