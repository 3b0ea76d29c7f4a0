/- Layer 9: the sizes, products and sums of the reference of layer 2 (without mul64, which VF1 has). -/
import Derived.Test.YtcghjjfpjiacfaaDoorVLz
namespace Go.Proofs.YtcghjjfpjiacfaaDoor
open Go.RowKit Go.Shelf
set_option linter.unusedVariables false

theorem wrap_in {x : Int} (h0 : 0 ≤ x) (h1 : x < 18446744073709551616) : IntKind.u64.wrap x = x := by rw [IntKind.wrap_u64]; omega
/-- The low half of a word; two words of which one has the low bits alone. -/
theorem and_low {Y : Int} (h0 : 0 ≤ Y) (h1 : Y < 18446744073709551616) : bits .and .u64 Y 4294967295 = Y % 4294967296 := by
  obtain ⟨n, rfl⟩ := Int.eq_ofNat_of_zero_le h0
  rw [Mul64.maskN n (by omega)]
  omega
set_option maxHeartbeats 400000 in
theorem refSize_any (n : Int) (w : World) (h0 : -9223372036854775808 ≤ n) (h1 : n ≤ 9223372036854775807) :
    Calls Tryd.prog 90 #[.int .i64 n] w fun e w' => e = .returned (.int .u64 (n.natAbs : Int)) ∧ w = w' := by
  go_enter Tryd.func90, Tryd.ntmps90
  go_wp2
  all_goals (go_ret; exact ⟨r_int (by first | omega | (simp only [IntKind.wrap_u64]; omega)), rfl⟩)
theorem rplus_w (x y : Int) : (if 18446744073709551616 ≤ loW x + loW y then IntKind.u64.wrap (IntKind.u64.wrap (hiW x + hiW y) + 1) else IntKind.u64.wrap (hiW x + hiW y)) = hiW (x + y) ∧ IntKind.u64.wrap (loW x + loW y) = loW (x + y) := by
  simp only [IntKind.wrap_u64]
  unfold hiW loW
  split <;> omega
set_option maxHeartbeats 1000000 in
theorem refPlus_any (x y : Int) (w : World) :
    Calls Tryd.prog 91 #[.agg #[.int .u64 (hiW x), .int .u64 (loW x)], .agg #[.int .u64 (hiW y), .int .u64 (loW y)]] w fun e w' => e = .returned (.agg #[.int .u64 (hiW (x + y)), .int .u64 (loW (x + y))]) ∧ Below w.heap.size w w' := by
  obtain ⟨E1, E2⟩ := rplus_w x y
  obtain ⟨b1, b2⟩ := loW_bd x
  obtain ⟨d1, d2⟩ := loW_bd y
  have c := hiW_bd x
  generalize hiW x = h at *
  generalize loW x = l at *
  generalize hiW y = h' at *
  generalize loW y = l' at *
  generalize hiW (x + y) = H at *
  generalize loW (x + y) = L at *
  obtain ⟨H0, e0⟩ : ∃ H0, IntKind.u64.wrap (h + h') = H0 := ⟨_, rfl⟩
  rw [e0] at E1
  by_cases k : 18446744073709551616 ≤ l + l'
  · rw [if_pos k] at E1
    have f : decide (L < l) = true := by rw [← E2, IntKind.wrap_u64]; simp; omega
    clear c k
    go_enter Tryd.func91, Tryd.ntmps91
    go_wp2
    go_returns
    exact ⟨rfl, by go_grown⟩
  · rw [if_neg k] at E1
    have f0 : l + l' = L := by rw [← E2, IntKind.wrap_u64]; omega
    have f : decide (L < l) = false := by rw [← f0]; simp; omega
    have f1 : IntKind.u64.wrap L = L := by rw [← f0]; exact wrap_in (by omega) (by omega)
    subst E1
    clear c k
    go_enter Tryd.func91, Tryd.ntmps91
    go_wp2
    go_returns
    exact ⟨rfl, by go_grown⟩
theorem half_mul {a b : Int} (a0 : 0 ≤ a) (a1 : a < 4294967296) (b0 : 0 ≤ b) (b1 : b < 4294967296) : 0 ≤ a * b ∧ a * b ≤ 18446744065119617025 := by
  have := Int.mul_le_mul (show a ≤ 4294967295 by omega) (show b ≤ 4294967295 by omega) b0 (by omega)
  exact ⟨Int.mul_nonneg a0 b0, by omega⟩
set_option maxHeartbeats 2000000 in
theorem refMul_any (x y : Int) (w : World) (x0 : 0 ≤ x) (x1 : x < 18446744073709551616) (y0 : 0 ≤ y) (y1 : y < 18446744073709551616) :
    Calls Tryd.prog 89 #[.int .u64 x, .int .u64 y] w fun e w' => e = .returned (.agg #[.int .u64 (hiW (x * y)), .int .u64 (loW (x * y))]) ∧ Below w.heap.size w w' := by
  obtain ⟨a1, ha1⟩ : ∃ a, x / 4294967296 = a := ⟨_, rfl⟩
  obtain ⟨a0, ha0⟩ : ∃ a, x % 4294967296 = a := ⟨_, rfl⟩
  obtain ⟨b1, hb1⟩ : ∃ a, y / 4294967296 = a := ⟨_, rfl⟩
  obtain ⟨b0, hb0⟩ : ∃ a, y % 4294967296 = a := ⟨_, rfl⟩
  have e1 : bits .and .u64 x 4294967295 = a0 := by rw [and_low x0 x1, ha0]
  have e2 : bits .and .u64 y 4294967295 = b0 := by rw [and_low y0 y1, hb0]
  obtain ⟨p0, q0⟩ := half_mul (a := a0) (b := b0) (by omega) (by omega) (by omega) (by omega)
  obtain ⟨p1, q1⟩ := half_mul (a := a1) (b := b0) (by omega) (by omega) (by omega) (by omega)
  obtain ⟨p2, q2⟩ := half_mul (a := a0) (b := b1) (by omega) (by omega) (by omega) (by omega)
  obtain ⟨p3, q3⟩ := half_mul (a := a1) (b := b1) (by omega) (by omega) (by omega) (by omega)
  have hxy : x * y = a1 * b1 * 18446744073709551616 + (a1 * b0 + a0 * b1) * 4294967296 + a0 * b0 := by
    have hx : x = a1 * 4294967296 + a0 := by omega
    have hy : y = b1 * 4294967296 + b0 := by omega
    rw [hx, hy]; grind
  have f0 : IntKind.u64.wrap (a0 * b0) = a0 * b0 := wrap_in p0 (by omega)
  have f1 : IntKind.u64.wrap (a1 * b0) = a1 * b0 := wrap_in p1 (by omega)
  have f2 : IntKind.u64.wrap (a0 * b1) = a0 * b1 := wrap_in p2 (by omega)
  have f3 : IntKind.u64.wrap (a1 * b1) = a1 * b1 := wrap_in p3 (by omega)
  obtain ⟨P0, g0⟩ : ∃ P, a0 * b0 = P := ⟨_, rfl⟩
  obtain ⟨P1, g1⟩ : ∃ P, a1 * b0 = P := ⟨_, rfl⟩
  obtain ⟨P2, g2⟩ : ∃ P, a0 * b1 = P := ⟨_, rfl⟩
  obtain ⟨P3, g3⟩ : ∃ P, a1 * b1 = P := ⟨_, rfl⟩
  rw [g0] at p0 q0 f0; rw [g1] at p1 q1 f1; rw [g2] at p2 q2 f2; rw [g3] at p3 q3 f3
  rw [g0, g1, g2, g3] at hxy
  obtain ⟨m2, h2⟩ : ∃ m, (P1 + P0 / 4294967296) % 4294967296 = m := ⟨_, rfl⟩
  obtain ⟨m0, h0⟩ : ∃ m, P0 % 4294967296 = m := ⟨_, rfl⟩
  have e3 : bits .and .u64 (P1 + P0 / 4294967296) 4294967295 = m2 := by rw [and_low (by omega) (by omega), h2]
  have e4 : bits .and .u64 P0 4294967295 = m0 := by rw [and_low (by omega) (by omega), h0]
  have m20 : 0 ≤ m2 := by omega
  have m21 : m2 < 4294967296 := by omega
  have HX := Lib.hid (And.intro hxy (And.intro h2 h0))
  obtain ⟨Z, hZ⟩ : ∃ Z, x * y = Z := ⟨_, rfl⟩
  rw [hZ] at HX ⊢
  have Hx := Lib.hid (And.intro hb0 (And.intro ha0 (And.intro f0 (And.intro f1 (And.intro f2 (And.intro f3 hZ))))))
  clear hxy h2 h0 hZ ha0 hb0 x0 x1 y0 y1
  go_enter Tryd.func89, Tryd.ntmps89
  go_wp2
  go_returns
  refine ⟨ret_w ?_ ?_, by go_grown⟩
  · obtain ⟨h1, h2, h3⟩ := HX.out
    unfold hiW
    first | omega | go_arith
  · obtain ⟨h1, h2, h3⟩ := HX.out
    unfold loW
    first | omega | go_arith

end Go.Proofs.YtcghjjfpjiacfaaDoor
