/- The walks of Round, and of its reference. -/
import Derived.Test.YtbpcfgeefelfdaaDoorLeaf
import Derived.ChangeAlike
namespace Go.Proofs.YtbpcfgeefelfdaaDoor
open Go.RowKit

def rnd (n u : Int) : Int := (2 * n + u) / (2 * u)

theorem rnd_of {n u m : Int} (hu : 0 < u) (h1 : -u ≤ 2 * (n - m * u)) (h2 : 2 * (n - m * u) < u) : rnd n u = m := by
  unfold rnd
  have e : 2 * n + u = (2 * (n - m * u) + u) + (2 * u) * m := by
    rw [Int.mul_assoc, Int.mul_comm u m, Int.mul_sub]; omega
  rw [e, Int.add_mul_ediv_left _ _ (by omega), Int.ediv_eq_zero_of_lt (by omega) (by omega)]
  omega

/-- The quotient and the remainder of Go, and what is made of them. -/
theorem rnd_go {n u q r : Int} (hu : 0 < u) (h1 : u * q + r = n) (h2 : r < u) (h3 : -u < r) :
    rnd n u = (if r < 0 then (if u ≤ 2 * (r + u) then q - 1 + 1 else q - 1) else (if u ≤ 2 * r then q + 1 else q)) := by
  have hc : u * q = q * u := Int.mul_comm u q
  have d1 : (q - 1) * u = q * u - u := by rw [Int.sub_mul, Int.one_mul]
  have d2 : (q + 1) * u = q * u + u := by rw [Int.add_mul, Int.one_mul]
  have d3 : (q - 1 + 1) * u = q * u := by rw [show q - 1 + 1 = q from by omega]
  split
  · split
    · exact rnd_of hu (by rw [d3]; omega) (by rw [d3]; omega)
    · exact rnd_of hu (by rw [d1]; omega) (by rw [d1]; omega)
  · split
    · exact rnd_of hu (by rw [d2]; omega) (by rw [d2]; omega)
    · exact rnd_of hu (by omega) (by omega)

theorem q_bd {n u : Int} (h1 : -1152921504606846976 ≤ n) (h2 : n ≤ 1152921504606846976) : -1152921504606846976 ≤ n.tdiv u ∧ n.tdiv u ≤ 1152921504606846976 := by
  have := Int.natAbs_tdiv_le_natAbs n u
  omega

set_option maxHeartbeats 1000000 in
theorem Round_unit (n u : Int) (w : World) (h : ¬ (1 ≤ u ∧ u ≤ 1099511627776)) :
    Calls Tryd.prog 13 #[.int .i64 n, .int .i64 u] w fun e w' => e = .returned (.tuple #[.int .i64 0, .int .i64 2]) ∧ w = w' := by
  by_cases h1 : u < 1
  · go_enter Tryd.func13, Tryd.ntmps13
    go_wp2
    go_ret2
    exact ⟨rfl, rfl⟩
  · have h2 : 1099511627776 < u := by omega
    clear h
    go_enter Tryd.func13, Tryd.ntmps13
    go_wp2
    go_ret2
    exact ⟨rfl, rfl⟩

set_option maxHeartbeats 1000000 in
theorem Round_big (n u : Int) (w : World) (h1 : 1 ≤ u) (h2 : u ≤ 1099511627776) (hn : numB n = false) :
    Calls Tryd.prog 13 #[.int .i64 n, .int .i64 u] w fun e w' => e = .returned (.tuple #[.int .i64 0, .int .i64 5]) ∧ w = w' := by
  have Hn := Lib.hid hn
  clear hn
  go_enter Tryd.func13, Tryd.ntmps13
  go_wp2_with (go_at_call 21; refine ((isNumber_any _ _).mono ?_); rintro e w' ⟨rfl, rfl⟩; rw [Hn.out])
  go_ret2
  exact ⟨rfl, rfl⟩

set_option maxHeartbeats 1000000 in
theorem Round_ok (n u : Int) (w : World) (h1 : 1 ≤ u) (h2 : u ≤ 1099511627776) (hn : -1152921504606846976 ≤ n) (hn2 : n ≤ 1152921504606846976) :
    Calls Tryd.prog 13 #[.int .i64 n, .int .i64 u] w fun e w' => e = .returned (.tuple #[.int .i64 (rnd n u), .int .i64 0]) ∧ ∃ k, w' = w.drewN k := by
  have Hn := Lib.hid (numB_yes ⟨hn, hn2⟩)
  have hb := q_bd (n := n) (u := u) hn hn2
  have hr1 : n.tmod u < u := Int.tmod_lt_of_pos n (by omega)
  have hr2 : -u < n.tmod u := by have := Int.lt_tmod_of_pos n (show (0 : Int) < u by omega); omega
  have hq1 := hb.1
  have hq2 := hb.2
  have hfin := Lib.hid (rnd_go (n := n) (u := u) (by omega) (Int.mul_tdiv_add_tmod n u) hr1 hr2)
  clear hb
  go_enter Tryd.func13, Tryd.ntmps13
  go_wp2_with (go_at_call 21; refine ((isNumber_any _ _).mono ?_); rintro e w' ⟨rfl, rfl⟩; rw [Hn.out])
  go_quiet (fail)
  go_wp2
  all_goals
    go_ret2
    exact ⟨ret_two (by rw [hfin.out]; first | (rw [if_pos (by omega), if_pos (by omega)]; omega) | (rw [if_pos (by omega), if_neg (by omega)]) | (rw [if_neg (by omega), if_pos (by omega)]) | (rw [if_neg (by omega), if_neg (by omega)])) rfl, nq, rfl⟩


end Go.Proofs.YtbpcfgeefelfdaaDoor
