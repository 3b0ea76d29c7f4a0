/- The walk of the law DecimalHalf. -/
import Derived.Test.YtbpcfgeefelfdaaAwake
namespace Go.Proofs.Ytbpcfgeefelfdaa
open Go.RowKit

theorem rnd_lo {n u : Int} (hu : 0 < u) : -u ≤ 2 * (n - rnd n u * u) ∧ 2 * (n - rnd n u * u) < u := by
  have h1 := Int.emod_nonneg (2 * n + u) (show (2 * u) ≠ 0 by omega)
  have h2 := Int.emod_lt_of_pos (2 * n + u) (show 0 < 2 * u by omega)
  have h3 := Int.mul_ediv_add_emod (2 * n + u) (2 * u)
  have h4 : 2 * u * ((2 * n + u) / (2 * u)) = 2 * (rnd n u * u) := by
    unfold rnd; rw [Int.mul_assoc, Int.mul_comm u]
  omega

theorem rnd_mono {n m u : Int} (hu : 0 < u) (h : n ≤ m) : rnd n u ≤ rnd m u :=
  Int.ediv_le_ediv (by omega) (by omega)

theorem rnd_self {x u : Int} (hu : 0 < u) : rnd (x * u) u = x := rnd_of hu (by omega) (by omega)

theorem rnd_next {n u : Int} (hu : 0 < u) : rnd (n + u) u = rnd n u + 1 := by
  have h := rnd_lo (n := n) hu
  have e : (rnd n u + 1) * u = rnd n u * u + u := by rw [Int.add_mul, Int.one_mul]
  exact rnd_of hu (by rw [e]; omega) (by rw [e]; omega)

theorem rnd_bd {n u : Int} (hu : 0 < u) (h1 : -1152921504606846976 ≤ n) (h2 : n ≤ 1152921504606846976) : -1152921504606846977 ≤ rnd n u ∧ rnd n u ≤ 1152921504606846977 := by
  have hb := q_bd (n := n) (u := u) h1 h2
  rw [rnd_go (n := n) (u := u) hu (Int.mul_tdiv_add_tmod n u) (Int.tmod_lt_of_pos n hu) (by have := Int.lt_tmod_of_pos n hu; omega)]
  split <;> split <;> omega

def farB (n : Int) : Bool := decide (n < -288230376151711744) || decide (288230376151711744 < n)

set_option maxHeartbeats 400000 in
theorem far_any (n : Int) (w : World) :
    Calls Try.prog 25 #[.int .i64 n] w fun e w' => e = .returned (.bool (farB n)) ∧ w = w' := by
  go_enter Try.func25, Try.ntmps25
  go_wp2
  all_goals (go_ret; exact ⟨by simp [farB, *] <;> omega, rfl⟩)

theorem farB_no {n : Int} (h : farB n = false) : -288230376151711744 ≤ n ∧ n ≤ 288230376151711744 := by
  unfold farB at h; simp at h; omega

set_option maxRecDepth 100000 in
set_option maxHeartbeats 4000000 in
theorem half_walk (n m u : Int) (w : World) :
    Calls Try.prog 9 #[.int .i64 n, .int .i64 m, .int .i64 u] w fun e w' => e = .returned (.bool true) ∧ Below w.heap.size w w' := by
  by_cases hall : farB n = false ∧ farB m = false ∧ 1 ≤ u ∧ u ≤ 1099511627776
  · obtain ⟨hfn, hfm, hu1, hu2⟩ := hall
    obtain ⟨hn1, hn2⟩ := farB_no hfn
    obtain ⟨hm1, hm2⟩ := farB_no hfm
    have hd := rnd_lo (n := n) (u := u) (by omega)
    have hself := rnd_self (x := rnd n u) (u := u) (by omega)
    have hnext := rnd_next (n := n) (u := u) (by omega)
    have hbd := rnd_bd (n := n) (u := u) (by omega) (by omega) (by omega)
    have hmono := fun h => rnd_mono (n := n) (m := m) (u := u) (by omega) h
    obtain ⟨X, hX⟩ : ∃ X, X = rnd n u := ⟨_, rfl⟩
    obtain ⟨Y, hY⟩ : ∃ Y, Y = rnd m u := ⟨_, rfl⟩
    rw [← hX] at hd hself hnext hbd hmono
    rw [← hY] at hmono
    have hd1 := hd.1
    have hd2 := hd.2
    have hx1 := hbd.1
    have hx2 := hbd.2
    have hp1 : -1152921504606846976 ≤ X * u := by omega
    have hp2 : X * u ≤ 1152921504606846976 := by omega
    have Hfn := Lib.hid hfn
    have Hfm := Lib.hid hfm
    have HX := Lib.hid hX
    have HY := Lib.hid hY
    have Hself := Lib.hid hself
    have Hnext := Lib.hid hnext
    have hnm : (m < n) ∨ (¬ m < n ∧ X ≤ Y) := by
      by_cases h : m < n
      · exact .inl h
      · exact .inr ⟨h, hmono (by omega)⟩
    clear hfn hfm hX hY hself hnext hd hbd hmono
    go_enter Try.func9, Try.ntmps9
    go_wp2_with fail
    refine (awake_any _).mono ?_
    rintro e w1 ⟨rfl, hb1⟩
    have Hb1 := Lib.hid hb1
    clear hb1
    go_wp2_with fail
    refine (far_any n _).mono ?_
    rintro e w' ⟨rfl, rfl⟩
    rw [Hfn.out]
    go_wp2_with fail
    refine (far_any m _).mono ?_
    rintro e w' ⟨rfl, rfl⟩
    rw [Hfm.out]
    go_wp2_with fail
    refine (Round_ok n u _ hu1 hu2 (by omega) (by omega)).mono ?_
    rintro e w' ⟨rfl, k1, rfl⟩
    rw [← HX.out]
    go_wp2_with fail
    refine (Round_ok m u _ hu1 hu2 (by omega) (by omega)).mono ?_
    rintro e w' ⟨rfl, k2, rfl⟩
    rw [← HY.out]
    go_wp2_with fail
    refine (Round_ok (X * u) u _ hu1 hu2 hp1 hp2).mono ?_
    rintro e w' ⟨rfl, k3, rfl⟩
    rw [Hself.out]
    go_wp2_with fail
    refine (Round_ok (n + u) u _ hu1 hu2 (by omega) (by omega)).mono ?_
    rintro e w' ⟨rfl, k4, rfl⟩
    rw [Hnext.out]
    rcases hnm with hnm | ⟨hnm, hxy⟩
    · go_wp2_with fail
      go_ret
      exact ⟨rfl, by have := Hb1.out; repeat (first | exact this | refine below_drewN ?_ _)⟩
    · go_wp2_with fail
      go_ret
      exact ⟨rfl, by have := Hb1.out; repeat (first | exact this | refine below_drewN ?_ _)⟩
  · cases hfn : farB n with
    | true =>
      have Hfn := Lib.hid hfn
      clear hall hfn
      go_enter Try.func9, Try.ntmps9
      go_wp2_with fail
      refine (awake_any _).mono ?_
      rintro e w1 ⟨rfl, hb1⟩
      have Hb1 := Lib.hid hb1
      clear hb1
      go_wp2_with fail
      refine (far_any n _).mono ?_
      rintro e w' ⟨rfl, rfl⟩
      rw [Hfn.out]
      go_wp2_with fail
      go_ret
      exact ⟨rfl, Hb1.out⟩
    | false =>
      have Hfn := Lib.hid hfn
      cases hfm : farB m with
      | true =>
        have Hfm := Lib.hid hfm
        clear hall hfn hfm
        go_enter Try.func9, Try.ntmps9
        go_wp2_with fail
        refine (awake_any _).mono ?_
        rintro e w1 ⟨rfl, hb1⟩
        have Hb1 := Lib.hid hb1
        clear hb1
        go_wp2_with fail
        refine (far_any n _).mono ?_
        rintro e w' ⟨rfl, rfl⟩
        rw [Hfn.out]
        go_wp2_with fail
        refine (far_any m _).mono ?_
        rintro e w' ⟨rfl, rfl⟩
        rw [Hfm.out]
        go_wp2_with fail
        go_ret
        exact ⟨rfl, Hb1.out⟩
      | false =>
        have Hfm := Lib.hid hfm
        have hu : u < 1 ∨ (¬ u < 1 ∧ 1099511627776 < u) := by
          by_cases h : u < 1
          · exact .inl h
          · exact .inr ⟨h, by
              rcases Int.lt_or_le 1099511627776 u with h2 | h2
              · exact h2
              · exact absurd ⟨hfn, hfm, by omega, h2⟩ hall⟩
        clear hall hfn hfm
        go_enter Try.func9, Try.ntmps9
        go_wp2_with fail
        refine (awake_any _).mono ?_
        rintro e w1 ⟨rfl, hb1⟩
        have Hb1 := Lib.hid hb1
        clear hb1
        go_wp2_with fail
        refine (far_any n _).mono ?_
        rintro e w' ⟨rfl, rfl⟩
        rw [Hfn.out]
        go_wp2_with fail
        refine (far_any m _).mono ?_
        rintro e w' ⟨rfl, rfl⟩
        rw [Hfm.out]
        rcases hu with hu | ⟨hu, hu2⟩
        · go_wp2_with fail
          go_ret
          exact ⟨rfl, Hb1.out⟩
        · go_wp2_with fail
          go_ret
          exact ⟨rfl, Hb1.out⟩

end Go.Proofs.Ytbpcfgeefelfdaa
