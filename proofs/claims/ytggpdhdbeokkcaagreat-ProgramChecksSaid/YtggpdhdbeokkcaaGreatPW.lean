/- Layer 5: numbers of two words with their signs apart, as package program reckons with them. -/
import Derived.Test.YtggpdhdbeokkcaaGreatRProd
import Derived.Test.YtggpdhdbeokkcaaGreatRDiv2
namespace Go.Proofs.YtggpdhdbeokkcaaGreat
set_option linter.unusedVariables false
open Go.RowKit Go.Shelf

theorem ret_wide {g g' : Bool} {h l h' l' : Int} (e0 : g = g') (e1 : h = h') (e2 : l = l') : Ending.returned (.agg #[.bool g, .int .u64 h, .int .u64 l]) = .returned (.agg #[.bool g', .int .u64 h', .int .u64 l']) := by rw [e0, e1, e2]
/-- A sign that fits a number. -/
def SgF (g : Bool) (z : Int) : Prop := (z < 0 → g = true) ∧ (0 < z → g = false)

set_option maxHeartbeats 1000000 in
theorem wproduct_any (a b : Int) (w : World) (a0 : -4611686018427387904 ≤ a) (a1 : a ≤ 4611686018427387904) (b0 : -4611686018427387904 ≤ b) (b1 : b ≤ 4611686018427387904) :
  Calls Tryz.prog 117 #[.int .i64 a, .int .i64 b] w fun e w' => e = .returned (.agg #[.bool (decide (a < 0) != decide (b < 0)), .int .u64 (hiW ((a.natAbs : Int) * b.natAbs)), .int .u64 (loW ((a.natAbs : Int) * b.natAbs))]) ∧ Below w.heap.size w w' := by
 obtain ⟨x, hx⟩ : ∃ x : Int, x = a.natAbs := ⟨_, rfl⟩
 obtain ⟨y, hy⟩ : ∃ y : Int, y = b.natAbs := ⟨_, rfl⟩
 have mx : max a (-a) = x := by omega
 have my : max b (-b) = y := by omega
 have x0 : 0 ≤ x := by omega
 have x1 : x < 18446744073709551616 := by omega
 have x2 : x ≤ 9223372036854775807 := by omega
 have y0 : 0 ≤ y := by omega
 have y1 : y < 18446744073709551616 := by omega
 have y2 : y ≤ 9223372036854775807 := by omega
 rw [← hx, ← hy]
 clear hx hy
 have C := fun w => Lib.hid (mul64 x y w x0 x1 y0 y1)
 generalize hiW (x * y) = h at *
 generalize loW (x * y) = l at *
 go_enter Tryz.func117, Tryz.ntmps117
 go_wp2_with (first
  | (go_at_call 125; (with_reducible refine ((C _).out).mono ?_); rintro e w' ⟨rfl, rfl⟩))
 all_goals
  go_returns
  exact ⟨ret_wide (by generalize decide (a < 0) = u; generalize decide (b < 0) = v; cases u <;> cases v <;> rfl) rfl rfl, by go_grown⟩

theorem minus_bor {X Y : Int} (x0 : 0 ≤ X) (x1 : X < 170141183460469231731687303715884105728) (y0 : 0 ≤ Y) (y1 : Y < 170141183460469231731687303715884105728) : bor (hiW X) (hiW Y + bor (loW X) (loW Y)) = if X < Y then 1 else 0 := by
 unfold bor hiW loW
 (repeat' split) <;> omega

set_option maxHeartbeats 2000000 in
theorem wminus_any (g1 g2 : Bool) (X Y : Int) (w : World) (x0 : 0 ≤ X) (x1 : X < 170141183460469231731687303715884105728) (y0 : 0 ≤ Y) (y1 : Y < 170141183460469231731687303715884105728) :
  Calls Tryz.prog 118 #[.agg #[.bool g1, .int .u64 (hiW X), .int .u64 (loW X)], .agg #[.bool g2, .int .u64 (hiW Y), .int .u64 (loW Y)]] w fun e w' =>
   (e = .returned (if g1 = g2 then (if X < Y then .agg #[.bool (!g1), .int .u64 (hiW (Y - X)), .int .u64 (loW (Y - X))] else .agg #[.bool g1, .int .u64 (hiW (X - Y)), .int .u64 (loW (X - Y))]) else .agg #[.bool g1, .int .u64 (hiW (X + Y)), .int .u64 (loW (X + Y))])) ∧ Below w.heap.size w w' := by
 obtain ⟨a1, a2⟩ := hiW_bd X
 obtain ⟨b1, b2⟩ := loW_bd X
 obtain ⟨c1, c2⟩ := hiW_bd Y
 obtain ⟨d1, d2⟩ := loW_bd Y
 obtain ⟨l1, l2⟩ := loW_bd (X - Y)
 obtain ⟨h1, h2⟩ := hiW_bd (X - Y)
 obtain ⟨o1, o2⟩ := bor_bd (loW X) (loW Y)
 obtain ⟨q1, q2⟩ := bor_bd 0 (loW (X - Y))
 have k0 : 0 ≤ (loW X + loW Y) / 18446744073709551616 := by omega
 have k1 : (loW X + loW Y) / 18446744073709551616 ≤ 1 := by omega
 have E1 := plus_lo X Y
 have E2 := plus_hi X Y
 have E3 := sub_lo X Y
 have E4 := sub_hi X Y
 have E5 := minus_bor x0 x1 y0 y1
 have E6 := neg_lo (X - Y)
 have E7 := neg_hi (X - Y)
 rw [show -(X - Y) = Y - X by omega] at E6 E7
 by_cases hg : g1 = g2
 ·subst hg
  rw [if_pos rfl]
  have hne : (g1 != g1) = false := by cases g1 <;> rfl
  by_cases hxy : X < Y
  ·rw [if_pos hxy] at E5
   rw [if_pos hxy]
   have HK := Lib.hid (And.intro x0 (And.intro x1 (And.intro y0 (And.intro y1 hxy))))
   clear x0 x1 y0 y1 hxy E1 E2
   generalize loW X = lx at *
   generalize hiW X = hx at *
   generalize loW Y = ly at *
   generalize hiW Y = hy at *
   generalize loW (X - Y) = lz at *
   generalize hiW (X - Y) = hz at *
   generalize loW (Y - X) = lu at *
   generalize hiW (Y - X) = hu at *
   clear HK
   go_enter Tryz.func118, Tryz.ntmps118
   go_wp2_with (first
    | simp only [sub64_0 lx ly b1 d1 d2, E3]
    | simp only [sub64 hx hy _ a1 c1 c2 o1 o2, E4, E5]
    | simp only [sub64_0 0 lz (by decide) l1 l2]
    | simp only [sub64 0 hz _ (by decide) h1 h2 q1 q2])
   all_goals
    go_returns
    exact ⟨ret_wide (by simp) (by simp_all) (by simp_all), by go_grown⟩
  ·rw [if_neg hxy] at E5
   rw [if_neg hxy]
   have HK := Lib.hid (And.intro x0 (And.intro x1 (And.intro y0 (And.intro y1 hxy))))
   clear x0 x1 y0 y1 hxy E1 E2
   generalize loW X = lx at *
   generalize hiW X = hx at *
   generalize loW Y = ly at *
   generalize hiW Y = hy at *
   generalize loW (X - Y) = lz at *
   generalize hiW (X - Y) = hz at *
   clear HK
   go_enter Tryz.func118, Tryz.ntmps118
   go_wp2_with (first
    | simp only [sub64_0 lx ly b1 d1 d2, E3]
    | simp only [sub64 hx hy _ a1 c1 c2 o1 o2, E4, E5])
   all_goals
    go_returns
    exact ⟨ret_wide (by simp) (by simp_all) (by simp_all), by go_grown⟩
 ·rw [if_neg hg]
  clear E3 E4 E5 E6 E7 l1 l2 h1 h2 o1 o2 q1 q2 x0 x1 y0 y1
  replace E1 := Lib.hid E1
  replace E2 := Lib.hid E2
  generalize loW (X + Y) = lz at *
  generalize hiW (X + Y) = hz at *
  generalize loW X = lx at *
  generalize hiW X = hx at *
  generalize loW Y = ly at *
  generalize hiW Y = hy at *
  have hh : (g1 = true ∧ g2 = false) ∨ (g1 = false ∧ g2 = true) := by revert hg; cases g1 <;> cases g2 <;> simp
  clear hg
  rcases hh with ⟨rfl, rfl⟩ | ⟨rfl, rfl⟩
  all_goals
   go_enter Tryz.func118, Tryz.ntmps118
   go_wp2_with (first
    | simp only [add64_0 lx ly b1 d1]
    | simp only [add64 hx hy _ a1 c1 k0 k1])
   all_goals
    go_returns
    exact ⟨ret_wide (by simp) E2.out E1.out, by go_grown⟩

set_option maxHeartbeats 2000000 in
theorem wover_any (g : Bool) (z y r : Int) (w : World) (hg : SgF g z) (y0 : 0 < y) (y1 : y ≤ 4611686018427387904) (r0 : -4611686018427387904 ≤ r) (r1 : r ≤ 4611686018427387904) (h : r * y = z) :
  Calls Tryz.prog 106 #[.agg #[.bool g, .int .u64 (hiW (z.natAbs : Int)), .int .u64 (loW (z.natAbs : Int))], .int .i64 y] w fun e w' => e = .returned (.int .i64 r) ∧ Below w.heap.size w w' := by
 have hz : ((z.natAbs : Nat) : Int) = (r.natAbs : Int) * y := by
  rw [← h, Int.natAbs_mul, Int.natCast_mul]
  congr 1
  omega
 have hq : ((z.natAbs : Nat) : Int) ≤ 4611686018427387904 * y := by rw [hz]; exact Int.mul_le_mul_of_nonneg_right (by omega) (by omega)
 obtain ⟨s, hs⟩ : ∃ s : Int, s = (z.natAbs : Int) := ⟨_, rfl⟩
 obtain ⟨R, hR⟩ : ∃ R : Int, R = (r.natAbs : Int) := ⟨_, rfl⟩
 rw [← hs] at hq hz
 rw [← hR] at hz
 rw [← hs]
 obtain ⟨sl0, sl1⟩ := loW_bd s
 obtain ⟨sh0, sh1⟩ := hiW_bd s
 have ev : hiW s * 18446744073709551616 + loW s = s := (W_of (by omega) (by omega)).symm
 have CD := fun w => Lib.hid (div64_any (hiW s) (loW s) y w sh0 (by unfold hiW; omega) sl0 sl1 (by omega))
 rw [ev, hz, Int.mul_ediv_cancel _ (by omega)] at CD
 obtain ⟨t, ht⟩ : ∃ t, R * y % y = t := ⟨_, rfl⟩
 rw [ht] at CD
 rw [← hz] at CD
 have hsg : (g = true → r ≤ 0) ∧ (g = false → 0 ≤ r) := by
  constructor
  ·intro e
   rcases Int.lt_or_le 0 r with k | k
   ·have := Int.mul_pos k y0
    have := hg.2 (by omega)
    rw [e] at this; cases this
   ·exact k
  ·intro e
   rcases Int.lt_or_le r 0 with k | k
   ·have := Int.mul_neg_of_neg_of_pos k y0
    have := hg.1 (by omega)
    rw [e] at this; cases this
   ·exact k
 have wR : IntKind.i64.wrap R = R := IntWalk.i64_in _ (by omega)
 have wR2 : IntKind.i64.wrap (-R) = -R := IntWalk.i64_in _ (by omega)
 have wy : IntKind.u64.wrap y = y := IntWalk.u64_in _ (by omega)
 have e1 : g = true → -R = r := fun e => by have := hsg.1 e; omega
 have e2 : g = false → R = r := fun e => by have := hsg.2 e; omega
 have HK := Lib.hid (And.intro e1 e2)
 clear e1 e2 hsg ht hz hs hR ev hq h hg
 generalize hiW s = sh at *
 generalize loW s = sl at *
 cases g
 all_goals
  go_enter Tryz.func106, Tryz.ntmps106
  go_wp2_with (first
   | (go_at_call 119; (with_reducible refine ((CD _).out).mono ?_); rintro e w' ⟨rfl, kk, rfl⟩))
  go_ret
  refine ⟨?_, below_drew (by go_grown) _⟩
 ·exact r_int (HK.out.2 trivial)
 ·exact r_int (HK.out.1 trivial)

set_option maxHeartbeats 1000000 in
theorem wsign_any (g : Bool) (z : Int) (w : World) (hg : SgF g z) (h0 : -170141183460469231731687303715884105728 < z) (h1 : z < 170141183460469231731687303715884105728) :
  Calls Tryz.prog 120 #[.agg #[.bool g, .int .u64 (hiW (z.natAbs : Int)), .int .u64 (loW (z.natAbs : Int))]] w fun e w' => e = .returned (.int .i64 (sgn z)) ∧ Below w.heap.size w w' := by
 have E := sgn_zero (z := (z.natAbs : Int)) (by omega) (by omega)
 by_cases hz : z = 0
 ·have e1 := E.2 (by omega)
  rw [e1.1, e1.2]
  have es : sgn z = 0 := by unfold sgn; rw [if_pos hz]
  rw [es]
  clear E e1 es
  go_enter Tryz.func120, Tryz.ntmps120
  go_wp2
  all_goals
   go_ret
   exact ⟨rfl, by go_grown⟩
 ·have N : ¬ (hiW (z.natAbs : Int) = 0 ∧ loW (z.natAbs : Int) = 0) := fun e => hz (by have := E.1 e; omega)
  obtain ⟨s, hs⟩ : ∃ s, s = sgn z := ⟨_, rfl⟩
  rw [← hs]
  have e1 : g = true → s = -1 := fun e => by
   rw [hs]; unfold sgn; rw [if_neg hz]
   rw [if_pos]
   rcases Int.lt_or_le z 0 with k | k
   ·exact k
   ·have := hg.2 (by omega); rw [e] at this; cases this
  have e2 : g = false → s = 1 := fun e => by
   rw [hs]; unfold sgn; rw [if_neg hz]
   rw [if_neg]
   intro k
   have := hg.1 k; rw [e] at this; cases this
  clear E hg h0 h1 hs
  generalize hiW (z.natAbs : Int) = sh at *
  generalize loW (z.natAbs : Int) = sl at *
  clear hz
  cases g
  ·have e3 := e2 rfl
   clear e1 e2
   subst e3
   by_cases k1 : sh = 0
   ·have k2 : (sh == 0) = true := by simpa using k1
    have k3 : (sl == 0) = false := by simpa using fun h => N ⟨k1, h⟩
    clear N
    go_enter Tryz.func120, Tryz.ntmps120
    go_wp2
    all_goals
     go_ret
     exact ⟨rfl, by go_grown⟩
   ·have k2 : (sh == 0) = false := by simpa using k1
    clear N
    go_enter Tryz.func120, Tryz.ntmps120
    go_wp2
    all_goals
     go_ret
     exact ⟨rfl, by go_grown⟩
  ·have e3 := e1 rfl
   clear e1 e2
   subst e3
   by_cases k1 : sh = 0
   ·have k2 : (sh == 0) = true := by simpa using k1
    have k3 : (sl == 0) = false := by simpa using fun h => N ⟨k1, h⟩
    clear N
    go_enter Tryz.func120, Tryz.ntmps120
    go_wp2
    all_goals
     go_ret
     exact ⟨rfl, by go_grown⟩
   ·have k2 : (sh == 0) = false := by simpa using k1
    clear N
    go_enter Tryz.func120, Tryz.ntmps120
    go_wp2
    all_goals
     go_ret
     exact ⟨rfl, by go_grown⟩

theorem abs_prod (a b : Int) : (a.natAbs : Int) * b.natAbs = ((a * b).natAbs : Int) := by rw [Int.natAbs_mul, Int.natCast_mul]
theorem prod_sg (a b : Int) : SgF (decide (a < 0) != decide (b < 0)) (a * b) := by
 rcases Int.lt_or_le a 0 with h1 | h1 <;> rcases Int.lt_or_le b 0 with h2 | h2
 ·have := Int.mul_pos_of_neg_of_neg h1 h2
  exact ⟨fun h => by omega, fun _ => by simp [h1, h2]⟩
 ·have := Int.mul_nonpos_of_nonpos_of_nonneg (Int.le_of_lt h1) h2
  exact ⟨fun _ => by simp [h1, show ¬ b < 0 by omega], fun h => by omega⟩
 ·have := Int.mul_nonpos_of_nonneg_of_nonpos h1 (Int.le_of_lt h2)
  exact ⟨fun _ => by simp [h2, show ¬ a < 0 by omega], fun h => by omega⟩
 ·have := Int.mul_nonneg h1 h2
  exact ⟨fun h => by omega, fun _ => by simp [show ¬ a < 0 by omega, show ¬ b < 0 by omega]⟩
/-- The difference of two numbers by their signs and sizes. -/
theorem minus_sg {g1 g2 : Bool} {p q : Int} (h1 : SgF g1 p) (h2 : SgF g2 q) : ∃ g, SgF g (p - q) ∧ (if g1 = g2 then (if ((p.natAbs : Nat) : Int) < q.natAbs then Value.agg #[.bool (!g1), .int .u64 (hiW ((q.natAbs : Int) - p.natAbs)), .int .u64 (loW ((q.natAbs : Int) - p.natAbs))] else .agg #[.bool g1, .int .u64 (hiW ((p.natAbs : Int) - q.natAbs)), .int .u64 (loW ((p.natAbs : Int) - q.natAbs))]) else .agg #[.bool g1, .int .u64 (hiW ((p.natAbs : Int) + q.natAbs)), .int .u64 (loW ((p.natAbs : Int) + q.natAbs))]) = .agg #[.bool g, .int .u64 (hiW ((p - q).natAbs : Int)), .int .u64 (loW ((p - q).natAbs : Int))] := by
 unfold SgF at *
 by_cases e : g1 = g2
 ·subst e
  rw [if_pos rfl]
  by_cases l : ((p.natAbs : Nat) : Int) < q.natAbs
  ·rw [if_pos l]
   cases g1
   ·have e1 : ((p - q).natAbs : Int) = (q.natAbs : Int) - p.natAbs := by
     have a1 := h1.1; have a2 := h2.1
     simp at a1 a2; omega
    refine ⟨true, ⟨fun _ => rfl, fun h => ?_⟩, by rw [e1]; rfl⟩
    have a1 := h1.1; have a2 := h2.1
    simp at a1 a2; omega
   ·have e1 : ((p - q).natAbs : Int) = (q.natAbs : Int) - p.natAbs := by
     have a1 := h1.2; have a2 := h2.2
     simp at a1 a2; omega
    refine ⟨false, ⟨fun h => ?_, fun _ => rfl⟩, by rw [e1]; rfl⟩
    have a1 := h1.2; have a2 := h2.2
    simp at a1 a2; omega
  ·rw [if_neg l]
   cases g1
   ·have e1 : ((p - q).natAbs : Int) = (p.natAbs : Int) - q.natAbs := by
     have a1 := h1.1; have a2 := h2.1
     simp at a1 a2; omega
    refine ⟨false, ⟨fun h => ?_, fun _ => rfl⟩, by rw [e1]⟩
    have a1 := h1.1; have a2 := h2.1
    simp at a1 a2; omega
   ·have e1 : ((p - q).natAbs : Int) = (p.natAbs : Int) - q.natAbs := by
     have a1 := h1.2; have a2 := h2.2
     simp at a1 a2; omega
    refine ⟨true, ⟨fun _ => rfl, fun h => ?_⟩, by rw [e1]⟩
    have a1 := h1.2; have a2 := h2.2
    simp at a1 a2; omega
 ·rw [if_neg e]
  cases g1 <;> cases g2
  ·exact absurd rfl e
  ·have a1 := h1.1; have a2 := h2.2
   simp at a1 a2
   have e1 : ((p - q).natAbs : Int) = (p.natAbs : Int) + q.natAbs := by omega
   exact ⟨false, ⟨fun h => by omega, fun _ => rfl⟩, by rw [e1]⟩
  ·have a1 := h1.2; have a2 := h2.1
   simp at a1 a2
   have e1 : ((p - q).natAbs : Int) = (p.natAbs : Int) + q.natAbs := by omega
   exact ⟨true, ⟨fun _ => rfl, fun h => by omega⟩, by rw [e1]⟩
  ·exact absurd rfl e
theorem abs_mul_lt {a b : Int} (a0 : -4611686018427387904 ≤ a) (a1 : a ≤ 4611686018427387904) (b0 : -4611686018427387904 ≤ b) (b1 : b ≤ 4611686018427387904) : ((a * b).natAbs : Int) ≤ 21267647932558653966460912964485513216 := by
 rw [Int.natAbs_mul, Int.natCast_mul]
 exact Int.mul_le_mul (show (a.natAbs : Int) ≤ 4611686018427387904 by omega) (show (b.natAbs : Int) ≤ 4611686018427387904 by omega) (by omega) (by omega)

set_option maxHeartbeats 2000000 in
theorem wcrossed_any (a b c d : Int) (a0 : -4611686018427387904 ≤ a) (a1 : a ≤ 4611686018427387904) (b0 : -4611686018427387904 ≤ b) (b1 : b ≤ 4611686018427387904) (c0 : -4611686018427387904 ≤ c) (c1 : c ≤ 4611686018427387904) (d0 : -4611686018427387904 ≤ d) (d1 : d ≤ 4611686018427387904) :
  ∃ g, SgF g (a * b - c * d) ∧ ∀ w, Calls Tryz.prog 105 #[.int .i64 a, .int .i64 b, .int .i64 c, .int .i64 d] w fun e w' => e = .returned (.agg #[.bool g, .int .u64 (hiW ((a * b - c * d).natAbs : Int)), .int .u64 (loW ((a * b - c * d).natAbs : Int))]) ∧ Below w.heap.size w w' := by
 have C1 := fun w => Lib.hid (wproduct_any a b w a0 a1 b0 b1)
 have C2 := fun w => Lib.hid (wproduct_any c d w c0 c1 d0 d1)
 have h1 := prod_sg a b
 have h2 := prod_sg c d
 have m1 := abs_mul_lt a0 a1 b0 b1
 have m2 := abs_mul_lt c0 c1 d0 d1
 simp only [abs_prod] at C1 C2
 generalize (decide (a < 0) != decide (b < 0)) = g1 at *
 generalize (decide (c < 0) != decide (d < 0)) = g2 at *
 generalize a * b = p at *
 generalize c * d = q at *
 obtain ⟨g, hg, he⟩ := minus_sg h1 h2
 have C3 := fun w => Lib.hid (wminus_any g1 g2 (p.natAbs : Int) (q.natAbs : Int) w (by omega) (by omega) (by omega) (by omega))
 rw [he] at C3
 refine ⟨g, hg, fun w => ?_⟩
 clear hg he h1 h2 m1 m2
 generalize hiW (p.natAbs : Int) = x1 at *
 generalize loW (p.natAbs : Int) = x2 at *
 generalize hiW (q.natAbs : Int) = x3 at *
 generalize loW (q.natAbs : Int) = x4 at *
 generalize hiW ((p - q).natAbs : Int) = x5 at *
 generalize loW ((p - q).natAbs : Int) = x6 at *
 go_enter Tryz.func105, Tryz.ntmps105
 go_wp2_with (first
  | (go_at_call 117; (with_reducible refine ((C1 _).out).mono ?_); rintro e w1 ⟨rfl, hb1⟩; obtain ⟨B1, hc1, hf1, n1, z1⟩ := after1 (a := w) hb1 (by go_grown) (by go_size); clear hb1)
  | (go_at_call 117; (with_reducible refine ((C2 _).out).mono ?_); rintro e w2 ⟨rfl, hb2⟩; obtain ⟨B2, hc2, hf2, n2, z2⟩ := after1 (a := w) hb2 B1 z1; clear hb2)
  | (go_at_call 118; (with_reducible refine ((C3 _).out).mono ?_); rintro e w3 ⟨rfl, hb3⟩; obtain ⟨B3, hc3, hf3, n3, z3⟩ := after1 (a := w) hb3 B2 z2; clear hb3))
 refine bodyPost_ret (by simp [results, Tryz.results105, go_sem, *]; try rfl) rfl ?_
 exact ⟨rfl, by go_grown⟩
end Go.Proofs.YtggpdhdbeokkcaaGreat
