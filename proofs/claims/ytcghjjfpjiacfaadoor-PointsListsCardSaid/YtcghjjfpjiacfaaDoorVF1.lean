/- Layer 9: sizes, products that are added in two words. -/
import Derived.Test.YtcghjjfpjiacfaaDoorVLen
namespace Go.Proofs.YtcghjjfpjiacfaaDoor
open Go.ChangeShapes Go.WideShapes Go.ChangeAt Go.RowKit Go.Joins Go.Deep Go.Shelf
set_option linter.unusedVariables false

theorem mul_w {x y : Nat} (hx : x < 18446744073709551616) (hy : y < 18446744073709551616) : ((x * y / 18446744073709551616 : Nat) : Int) = hiW ((x : Int) * y) ∧ ((x * y % 18446744073709551616 : Nat) : Int) = loW ((x : Int) * y) := by
  have h := Nat.mul_le_mul (Nat.le_sub_one_of_lt hx) (Nat.le_sub_one_of_lt hy)
  rw [← Int.natCast_mul]
  generalize x * y = z at *
  unfold hiW loW
  omega
theorem mul64 (x y : Int) (w : World) (x0 : 0 ≤ x) (x1 : x < 18446744073709551616) (y0 : 0 ≤ y) (y1 : y < 18446744073709551616) :
    Calls Tryd.prog 106 #[.int .u64 x, .int .u64 y] w fun e w' => e = .returned (.tuple #[.int .u64 (hiW (x * y)), .int .u64 (loW (x * y))]) ∧ w = w' := by
  obtain ⟨x, rfl⟩ := Int.eq_ofNat_of_zero_le x0
  obtain ⟨y, rfl⟩ := Int.eq_ofNat_of_zero_le y0
  obtain ⟨e1, e2⟩ := mul_w (x := x) (y := y) (by omega) (by omega)
  refine (Tryd.bits_Mul64 x y (by omega) (by omega) w).mono fun e w' ⟨he, hw⟩ => ⟨?_, hw.symm⟩
  rw [he, e1, e2]

set_option maxHeartbeats 2000000 in
theorem psize_any (n : Int) (w : World) (n0 : -9223372036854775807 ≤ n) (n1 : n ≤ 9223372036854775807) : Calls Tryd.prog 107 #[.int .i64 n] w fun e w' => e = .returned (.int .u64 (n.natAbs : Int)) ∧ w = w' := by
  have wn : IntKind.i64.wrap (-n) = -n := IntWalk.i64_in _ (by omega)
  obtain ⟨x, hx⟩ : ∃ x : Int, (n.natAbs : Int) = x := ⟨_, rfl⟩
  have x0 : 0 ≤ x := by omega
  have x1 : x ≤ 9223372036854775807 := by omega
  have wx : IntKind.u64.wrap x = x := IntWalk.u64_in _ (by omega)
  rw [hx]
  by_cases h : n ≤ -n
  · have e : x = -n := by omega
    subst e
    have hm : max n (-n) = -n := by omega
    clear hx x0 x1 n0 n1
    go_enter Tryd.func107, Tryd.ntmps107
    go_wp2_with fail
    go_ret
    exact ⟨by simp, rfl⟩
  · have e : x = n := by omega
    subst e
    have hm : max x (-x) = x := by omega
    clear hx x0 x1 n0 n1
    go_enter Tryd.func107, Tryd.ntmps107
    go_wp2_with fail
    go_ret
    exact ⟨by simp, rfl⟩
theorem add_words {X P : Int} (x0 : 0 ≤ X) (p0 : 0 ≤ P) (h : X + P < 170141183460469231731687303715884105728) :
    (loW X + loW P) % 18446744073709551616 = loW (X + P) ∧ (hiW X + hiW P + (loW X + loW P) / 18446744073709551616) % 18446744073709551616 = hiW (X + P) := by
  unfold hiW loW
  omega
set_option maxRecDepth 100000 in
set_option maxHeartbeats 4000000 in
theorem withp_any (X a b : Int) (w : World) (x0 : 0 ≤ X) (hX : X + (a.natAbs : Int) * b.natAbs < 170141183460469231731687303715884105728) (a0 : -9223372036854775807 ≤ a) (a1 : a ≤ 9223372036854775807) (b0 : -9223372036854775807 ≤ b) (b1 : b ≤ 9223372036854775807) :
    Calls Tryd.prog 84 #[.agg #[.int .u64 (hiW X), .int .u64 (loW X)], .int .i64 a, .int .i64 b] w fun e w' => e = .returned (.agg #[.int .u64 (hiW (X + (a.natAbs : Int) * b.natAbs)), .int .u64 (loW (X + (a.natAbs : Int) * b.natAbs))]) ∧ Below w.heap.size w w' := by
  have CA := fun W => Lib.hid (psize_any a W a0 a1)
  have CB := fun W => Lib.hid (psize_any b W b0 b1)
  obtain ⟨x, hx⟩ : ∃ x : Int, (a.natAbs : Int) = x := ⟨_, rfl⟩
  obtain ⟨y, hy⟩ : ∃ x : Int, (b.natAbs : Int) = x := ⟨_, rfl⟩
  have px := Int.mul_nonneg (show 0 ≤ x by omega) (show 0 ≤ y by omega)
  have CM := fun W => Lib.hid (mul64 x y W (by omega) (by omega) (by omega) (by omega))
  rw [hx] at CA hX
  rw [hy] at CB hX
  rw [hx, hy]
  obtain ⟨P, hP⟩ : ∃ p, x * y = p := ⟨_, rfl⟩
  rw [hP] at CM px hX
  rw [hP]
  have h2 := add_words x0 px hX
  have hl : 0 ≤ loW X ∧ 0 ≤ loW P ∧ 0 ≤ hiW X ∧ 0 ≤ hiW P ∧ loW X < 18446744073709551616 ∧ loW P < 18446744073709551616 := by unfold loW hiW; omega
  obtain ⟨r1, hr1⟩ : ∃ r, hiW (X + P) = r := ⟨_, rfl⟩
  obtain ⟨r2, hr2⟩ : ∃ r, loW (X + P) = r := ⟨_, rfl⟩
  rw [hr1, hr2] at h2
  rw [hr1, hr2]
  obtain ⟨xh, hxh⟩ : ∃ r, hiW X = r := ⟨_, rfl⟩
  obtain ⟨xl, hxl⟩ : ∃ r, loW X = r := ⟨_, rfl⟩
  obtain ⟨ph, hph⟩ : ∃ r, hiW P = r := ⟨_, rfl⟩
  obtain ⟨pl, hpl⟩ : ∃ r, loW P = r := ⟨_, rfl⟩
  rw [hxh, hxl, hph, hpl] at h2 hl
  rw [hph, hpl] at CM
  rw [hxh, hxl]
  have A1 := fun W => add64_0 xl pl (by omega) (by omega) W
  obtain ⟨cr, hcr⟩ : ∃ c, (xl + pl) / 18446744073709551616 = c := ⟨_, rfl⟩
  rw [h2.1, hcr] at A1
  have A2 := fun W => add64 xh ph cr (by omega) (by omega) (by omega) (by omega) W
  rw [hcr] at h2
  rw [h2.2] at A2
  clear hx hy px hX hP h2 hl hr1 hr2 hxh hxl hph hpl hcr a0 a1 b0 b1 x0
  go_enter Tryd.func84, Tryd.ntmps84
  go_wp2_with (first
    | (go_at_call 107; (with_reducible refine ((CA _).out.mono ?_)); rintro e w2 ⟨rfl, rfl⟩)
    | (go_at_call 107; (with_reducible refine ((CB _).out.mono ?_)); rintro e w2 ⟨rfl, rfl⟩)
    | (go_at_call 106; (with_reducible refine ((CM _).out.mono ?_)); rintro e w2 ⟨rfl, rfl⟩))
  refine bodyPost_ret (by simp [results, Tryd.results84, go_sem]; try rfl) rfl ?_
  exact ⟨rfl, by go_grown⟩
end Go.Proofs.YtcghjjfpjiacfaaDoor
