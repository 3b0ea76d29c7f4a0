/- Cmp, Floor, Ceil and Make of package ratio. -/
import Derived.Test.YtknbhpnhnhfbpaaROps
namespace Go.Proofs.Ytknbhpnhnhfbpaa
set_option linter.unusedVariables false
open Go.RowKit Go.Shelf

def cmpT (an ad bn bd : Int) : Int × Int := if vB an ad = true ∧ vB bn bd = true then (sgn (an * bd + -bn * ad), 0) else (0, 1)
def floorT (n d : Int) : Int × Int := if vB n d = true then (n / d, 0) else (0, 1)
def ceilT (n d : Int) : Int × Int := if vB n d = true then (-(-n / d), 0) else (0, 1)
def makeT (num den : Int) : Int × Int × Int := if den = 0 then (0, 0, 16) else redT (if den < 0 then -num else num) (den.natAbs : Int)
theorem two {a b c d : Int} (h : (a, b) = (c, d)) : a = c ∧ b = d := by injection h with h1 h2; exact ⟨h1, h2⟩

theorem ret_k {k k' e : Int} (h : k' = k) : Ending.returned (.tuple #[.int .i64 k, .int .i64 e]) = .returned (.tuple #[.int .i64 k', .int .i64 e]) := by rw [h]

theorem floor_go {n d q r : Int} (hd : 0 < d) (h : d * q + r = n) (h1 : r < d) (h2 : -d < r) : n / d = if r < 0 then q - 1 else q := by
  split
  · have e : n = (r + d) + d * (q - 1) := by rw [Int.mul_sub, Int.mul_one]; omega
    rw [e, Int.add_mul_ediv_left _ _ (by omega), Int.ediv_eq_zero_of_lt (by omega) (by omega)]; omega
  · have e : n = r + d * q := by omega
    rw [e, Int.add_mul_ediv_left _ _ (by omega), Int.ediv_eq_zero_of_lt (by omega) (by omega)]; omega
theorem ceil_go {n d q r : Int} (hd : 0 < d) (h : d * q + r = n) (h1 : r < d) (h2 : -d < r) : -(-n / d) = if 0 < r then q + 1 else q := by
  have := floor_go (n := -n) (d := d) (q := -q) (r := -r) hd (by rw [Int.mul_neg]; omega) (by omega) (by omega)
  rw [this]
  split <;> split <;> omega

theorem tq_bd {n d : Int} (h1 : -1152921504606846976 ≤ n) (h2 : n ≤ 1152921504606846976) : -1152921504606846976 ≤ n.tdiv d ∧ n.tdiv d ≤ 1152921504606846976 := by
  have := Int.natAbs_tdiv_le_natAbs n d
  omega

set_option maxHeartbeats 2000000 in
theorem Floor_any (n d : Int) (w : World) (n0 : -9223372036854775808 ≤ n) (n1 : n ≤ 9223372036854775807) (d0 : -9223372036854775808 ≤ d) (d1 : d ≤ 9223372036854775807) (k e : Int) (h : floorT n d = (k, e)) :
    Calls Try.prog 43 #[.agg #[.int .i64 n, .int .i64 d]] w fun r w' => r = .returned (.tuple #[.int .i64 k, .int .i64 e]) ∧ Below w.heap.size w w' := by
  have CV := fun w => Lib.hid (Valid_any n d w n0 n1 d0 d1)
  unfold floorT at h
  by_cases hv : vB n d = true
  · rw [if_pos hv] at h
    obtain ⟨q1, q2⟩ := two h
    subst q1; subst q2
    have v := vB_vld hv
    have v1 := v.d1; have v2 := v.d2; have v3 := v.n1; have v4 := v.n2
    simp only [hv] at CV
    clear h hv v
    obtain ⟨b1, b2⟩ := tq_bd (n := n) (d := d) v3 v4
    have r1 : n.tmod d < d := Int.tmod_lt_of_pos n (by omega)
    have r2 : -d < n.tmod d := by have := Int.lt_tmod_of_pos n (show (0 : Int) < d by omega); omega
    have F := Lib.hid (floor_go (by omega) (Int.mul_tdiv_add_tmod n d) r1 r2)
    obtain ⟨q, hq⟩ : ∃ q, n.tdiv d = q := ⟨_, rfl⟩
    obtain ⟨r, hr⟩ : ∃ r, n.tmod d = r := ⟨_, rfl⟩
    rw [hq, hr] at F
    rw [hq] at b1 b2
    rw [hr] at r1 r2
    have hne : ¬ d = 0 := by omega
    go_enter Try.func43, Try.ntmps43
    go_wp2_with (first
      | (go_at_call 54; (with_reducible refine ((CV _).out).mono ?_); rintro e w1 ⟨rfl, hb1⟩; obtain ⟨B1, hc1, hf1, p1, z1⟩ := after1 (a := w) hb1 (by go_grown) (by go_size); clear hb1))
    all_goals
      go_ret2
      exact ⟨ret_k (by rw [F.out]; first | rw [if_pos (by omega)] | rw [if_neg (by omega)]), by go_grown⟩
  · rw [if_neg hv] at h
    obtain ⟨q1, q2⟩ := two h
    subst q1; subst q2
    simp only [show vB n d = false by simpa using hv] at CV
    clear h hv
    go_enter Try.func43, Try.ntmps43
    go_wp2_with (first
      | (go_at_call 54; (with_reducible refine ((CV _).out).mono ?_); rintro e w1 ⟨rfl, hb1⟩; obtain ⟨B1, hc1, hf1, p1, z1⟩ := after1 (a := w) hb1 (by go_grown) (by go_size); clear hb1))
    go_ret2
    exact ⟨rfl, by go_grown⟩

set_option maxHeartbeats 2000000 in
theorem Ceil_any (n d : Int) (w : World) (n0 : -9223372036854775808 ≤ n) (n1 : n ≤ 9223372036854775807) (d0 : -9223372036854775808 ≤ d) (d1 : d ≤ 9223372036854775807) (k e : Int) (h : ceilT n d = (k, e)) :
    Calls Try.prog 44 #[.agg #[.int .i64 n, .int .i64 d]] w fun r w' => r = .returned (.tuple #[.int .i64 k, .int .i64 e]) ∧ Below w.heap.size w w' := by
  have CV := fun w => Lib.hid (Valid_any n d w n0 n1 d0 d1)
  unfold ceilT at h
  by_cases hv : vB n d = true
  · rw [if_pos hv] at h
    obtain ⟨q1, q2⟩ := two h
    subst q1; subst q2
    have v := vB_vld hv
    have v1 := v.d1; have v2 := v.d2; have v3 := v.n1; have v4 := v.n2
    simp only [hv] at CV
    clear h hv v
    obtain ⟨b1, b2⟩ := tq_bd (n := n) (d := d) v3 v4
    have r1 : n.tmod d < d := Int.tmod_lt_of_pos n (by omega)
    have r2 : -d < n.tmod d := by have := Int.lt_tmod_of_pos n (show (0 : Int) < d by omega); omega
    have F := Lib.hid (ceil_go (by omega) (Int.mul_tdiv_add_tmod n d) r1 r2)
    obtain ⟨q, hq⟩ : ∃ q, n.tdiv d = q := ⟨_, rfl⟩
    obtain ⟨r, hr⟩ : ∃ r, n.tmod d = r := ⟨_, rfl⟩
    rw [hq, hr] at F
    rw [hq] at b1 b2
    rw [hr] at r1 r2
    have hne : ¬ d = 0 := by omega
    go_enter Try.func44, Try.ntmps44
    go_wp2_with (first
      | (go_at_call 54; (with_reducible refine ((CV _).out).mono ?_); rintro e w1 ⟨rfl, hb1⟩; obtain ⟨B1, hc1, hf1, p1, z1⟩ := after1 (a := w) hb1 (by go_grown) (by go_size); clear hb1))
    all_goals
      go_ret2
      exact ⟨ret_k (by rw [F.out]; first | rw [if_pos (by omega)] | rw [if_neg (by omega)]), by go_grown⟩
  · rw [if_neg hv] at h
    obtain ⟨q1, q2⟩ := two h
    subst q1; subst q2
    simp only [show vB n d = false by simpa using hv] at CV
    clear h hv
    go_enter Try.func44, Try.ntmps44
    go_wp2_with (first
      | (go_at_call 54; (with_reducible refine ((CV _).out).mono ?_); rintro e w1 ⟨rfl, hb1⟩; obtain ⟨B1, hc1, hf1, p1, z1⟩ := after1 (a := w) hb1 (by go_grown) (by go_size); clear hb1))
    go_ret2
    exact ⟨rfl, by go_grown⟩

end Go.Proofs.Ytknbhpnhnhfbpaa
