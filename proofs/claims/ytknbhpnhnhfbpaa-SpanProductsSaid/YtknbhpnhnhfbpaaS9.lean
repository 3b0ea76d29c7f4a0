/- Layer 3: what the reference's Part, Floor, Ceil and Has return, and the law's at. -/
import Derived.Test.YtknbhpnhnhfbpaaS8
import Derived.Test.YtknbhpnhnhfbpaaRRef7
import Derived.Test.YtknbhpnhnhfbpaaSMath2
namespace Go.Proofs.Ytknbhpnhnhfbpaa
set_option linter.unusedVariables false
open Go.RowKit Go.Shelf

/-- A part, rounded up or down, if it is at most 2^60. -/
def ptV (a b c : Int) (up : Bool) : Int := if up = true then -(-qN a b c / qC c) else qN a b c / qC c
def ptT (a b c : Int) (up : Bool) : Int × Bool := if inM (ptV a b c up) then (ptV a b c up, true) else (0, false)
theorem pt_abs {a b c : Int} {sa sb sc : Bool} (d1 : decide (a < 0) = sa) (d2 : decide (b < 0) = sb) (d3 : decide (c < 0) = sc) (hc : c ≠ 0) {P : Int} (hP : (a.natAbs : Int) * (b.natAbs : Int) = P) (up : Bool) :
    ptV a b c up = (if ((sa != sb) != sc) = true then -(P / (c.natAbs : Int) + (if (decide (P % (c.natAbs : Int) ≠ 0) && (((sa != sb) != sc) == !up)) = true then 1 else 0)) else P / (c.natAbs : Int) + (if (decide (P % (c.natAbs : Int) ≠ 0) && (((sa != sb) != sc) == !up)) = true then 1 else 0)) := by
  have hz : (0 : Int) < (c.natAbs : Int) := by omega
  have r0 := Int.emod_nonneg P (show (c.natAbs : Int) ≠ 0 by omega)
  unfold ptV
  rw [q_sign d1 d2 d3, hP]
  unfold qC
  generalize hng : ((sa != sb) != sc) = ng
  by_cases hr : P % (c.natAbs : Int) = 0
  · have e : Go.Proofs.Ytknbhpnhnhfbpaa.up (P % (c.natAbs : Int)) = 0 := by unfold Go.Proofs.Ytknbhpnhnhfbpaa.up; rw [if_neg (by omega)]
    have ep := q_pos (P := P) hz
    have en := q_neg (P := P) hz
    rw [e] at ep en
    simp only [hr, ne_eq, not_true_eq_false, decide_false, Bool.false_and, if_false, Bool.false_eq_true, Int.add_zero]
    cases ng <;> cases up <;> simp <;> omega
  · have e : Go.Proofs.Ytknbhpnhnhfbpaa.up (P % (c.natAbs : Int)) = 1 := by unfold Go.Proofs.Ytknbhpnhnhfbpaa.up; rw [if_pos (by omega)]
    have ep := q_pos (P := P) hz
    have en := q_neg (P := P) hz
    rw [e] at ep en
    simp only [hr, ne_eq, not_false_eq_true, decide_true, Bool.true_and]
    cases ng <;> cases up <;> simp <;> omega

set_option maxHeartbeats 1000000 in
theorem part_any (n num den : Int) (up : Bool) (w : World) (n0 : -1152921504606846976 ≤ n) (n1 : n ≤ 1152921504606846976) (m0 : -1152921504606846976 ≤ num) (m1 : num ≤ 1152921504606846976) (d0 : -1152921504606846976 ≤ den) (d1 : den ≤ 1152921504606846976) (hc : den ≠ 0) (k : Int) (ok : Bool) (h : ptT n num den up = (k, ok)) :
    Calls Try.prog 36 #[.int .i64 n, .int .i64 num, .int .i64 den, .bool up] w fun e w' => e = .returned (.tuple #[.int .i64 k, .bool ok]) ∧ Below w.heap.size w w' := by
  have C1 := fun w => refSize_any n w (by omega) (by omega)
  have C2 := fun w => refSize_any num w (by omega) (by omega)
  have C3 := fun w => refSize_any den w (by omega) (by omega)
  have CM := fun w => refMul_any (n.natAbs : Int) (num.natAbs : Int) w (by omega) (by omega) (by omega) (by omega)
  have P0 := Int.mul_nonneg (show (0 : Int) ≤ n.natAbs by omega) (show (0 : Int) ≤ num.natAbs by omega)
  have P1 := Int.mul_le_mul (show (n.natAbs : Int) ≤ 1152921504606846976 by omega) (show (num.natAbs : Int) ≤ 1152921504606846976 by omega) (by omega) (by omega)
  have hz : (0 : Int) < (den.natAbs : Int) := by omega
  have hV := pt_abs (a := n) (b := num) (c := den) rfl rfl rfl hc rfl up
  obtain ⟨P, hP⟩ : ∃ P, (n.natAbs : Int) * (num.natAbs : Int) = P := ⟨_, rfl⟩
  rw [hP] at P0 P1 hV
  simp only [hP] at CM
  have CD := fun w => rdiv_any P (den.natAbs : Int) w P0 (by omega) hz (by omega)
  obtain ⟨z1, z2⟩ := words_small (z := (den.natAbs : Int)) (by omega) (by omega)
  have r0 := Int.emod_nonneg P (show (den.natAbs : Int) ≠ 0 by omega)
  have r1 := Int.emod_lt_of_pos P hz
  have q0 : 0 ≤ P / (den.natAbs : Int) := Int.ediv_nonneg P0 (by omega)
  have q1 : P / (den.natAbs : Int) ≤ P := Int.ediv_le_self _ P0
  obtain ⟨y1, y2⟩ := words_small (z := P % (den.natAbs : Int)) r0 (by omega)
  simp only [z1, z2, y1, y2] at CD
  obtain ⟨Q, hQ⟩ : ∃ Q, P / (den.natAbs : Int) = Q := ⟨_, rfl⟩
  obtain ⟨r, hr⟩ : ∃ r, P % (den.natAbs : Int) = r := ⟨_, rfl⟩
  rw [hQ] at q0 q1 hV
  rw [hr] at r0 hV
  simp only [hQ, hr] at CD
  have CP := fun w => refPlus_any Q 1 w
  obtain ⟨o1, o2⟩ := words_small (z := 1) (by omega) (by omega)
  simp only [o1, o2] at CP
  obtain ⟨ng, hng⟩ : ∃ ng, ((decide (n < 0) != decide (num < 0)) != decide (den < 0)) = ng := ⟨_, rfl⟩
  rw [hng] at hV
  obtain ⟨inc, hinc⟩ : ∃ inc, (decide (r ≠ 0) && (ng == !up)) = inc := ⟨_, rfl⟩
  rw [hinc] at hV
  obtain ⟨f, hf⟩ : ∃ f, Q + (if inc = true then 1 else 0) = f := ⟨_, rfl⟩
  rw [hf] at hV
  have f0 : 0 ≤ f := by rw [← hf]; split <;> omega
  have f1 : f < 340282366920938463463374607431768211456 := by rw [← hf]; split <;> omega
  obtain ⟨l0, l1⟩ := loW_bd f
  refine part_walk w n num den _ _ _ _ _ _ _ r _ _ (hiW f) (loW f) k up _ _ ng inc ok l0 l1 C1 C2 C3 CM CD CP rfl rfl ?_ ?_ ?_ ?_
  · rw [← hng]
    have e : ∀ x y z : Bool, ((x != y) != z) = ((!x == y) != z) := by decide
    exact e _ _ _
  · subst hinc
    by_cases c : r = 0
    · rw [if_neg (by simp [c])]; exact .inl c
    · have g : (r == 0) = false ∧ (r != 0) = true ∧ ¬ r = 0 := ⟨by simpa using c, by simpa using c, c⟩
      cases ng <;> cases up <;> simp [c, Hid]
  · subst hinc
    rw [← hf]
    unfold Hid
    split <;> simp
  · unfold ptT at h
    rw [hV] at h
    by_cases c : f ≤ 1152921504606846976
    · obtain ⟨w1, w2⟩ := words_small (z := f) f0 (by omega)
      rw [if_pos (by unfold inM; split <;> omega)] at h
      injection h with h1 h2
      subst h1; subst h2
      rw [w1, w2]
      exact (if_pos rfl).mpr ⟨rfl, c, rfl⟩
    · rw [if_neg (by unfold inM; split <;> omega)] at h
      injection h with h1 h2
      subst h1; subst h2
      have g := words_gt f0 f1
      rw [show (Hid _) = _ from rfl]
      refine (if_neg (by simp)).mpr ⟨rfl, ?_⟩
      rcases g with ⟨g, _⟩ | ⟨g, g2, _⟩ | ⟨_, _, g⟩
      · exact .inl (by simpa using g)
      · have b := hiW_bd f
        exact .inr ⟨by simp at g; omega, by simpa using g2⟩
      · omega

set_option maxHeartbeats 1000000 in
theorem rFloor_any (x c : Int) (w : World) (x0 : -1152921504606846976 ≤ x) (x1 : x ≤ 1152921504606846976) (c0 : -1152921504606846976 ≤ c) (c1 : c ≤ 1152921504606846976) (hc : c ≠ 0) :
    Calls Try.prog 37 #[.int .i64 x, .int .i64 c] w fun e w' => e = .returned (.int .i64 (fl x c)) ∧ Below w.heap.size w w' := by
  have C := fun w => Lib.hid (part_any x 1 c false w x0 x1 (by omega) (by omega) c0 c1 hc (fl x c) true (by unfold ptT; rw [show ptV x 1 c false = fl x c from if_neg (by simp)]; exact if_pos (fl_in x0 x1 hc)))
  generalize fl x c = v at *
  go_enter Try.func37, Try.ntmps37
  go_wp2_with fail
  (with_reducible refine ((C _).out).mono ?_)
  rintro e w1 ⟨rfl, hb⟩
  go_wp2_with fail
  go_ret
  exact ⟨rfl, hb⟩
set_option maxHeartbeats 1000000 in
theorem rCeil_any (x c : Int) (w : World) (x0 : -1152921504606846976 ≤ x) (x1 : x ≤ 1152921504606846976) (c0 : -1152921504606846976 ≤ c) (c1 : c ≤ 1152921504606846976) (hc : c ≠ 0) :
    Calls Try.prog 38 #[.int .i64 x, .int .i64 c] w fun e w' => e = .returned (.int .i64 (ce x c)) ∧ Below w.heap.size w w' := by
  have C := fun w => Lib.hid (part_any x 1 c true w x0 x1 (by omega) (by omega) c0 c1 hc (ce x c) true (by unfold ptT; rw [show ptV x 1 c true = ce x c from if_pos rfl]; exact if_pos (ce_in x0 x1 hc)))
  generalize ce x c = v at *
  go_enter Try.func38, Try.ntmps38
  go_wp2_with fail
  (with_reducible refine ((C _).out).mono ?_)
  rintro e w1 ⟨rfl, hb⟩
  go_wp2_with fail
  go_ret
  exact ⟨rfl, hb⟩
set_option maxHeartbeats 1000000 in
theorem has_yes (lo hi n : Int) (w : World) (h0 : lo ≤ n) (h1 : n ≤ hi) :
    Calls Try.prog 35 #[.agg #[.int .i64 lo, .int .i64 hi], .int .i64 n] w fun e w' => e = .returned (.bool true) ∧ Below w.heap.size w w' := by
  go_enter Try.func35, Try.ntmps35
  go_wp2
  go_ret
  exact ⟨rfl, (by repeat' (first | (with_reducible exact Below.refl _ _) | (with_reducible assumption) | (with_reducible refine Below.alloc ?_ ?_ _) | (with_reducible refine below_drew ?_ _) | (with_reducible refine Below.drew ?_) | (with_reducible refine Below.setCell ?_ ?_ _) | go_size))⟩
set_option maxHeartbeats 1000000 in
theorem has_no (lo hi n : Int) (w : World) (h : ¬ (lo ≤ n ∧ n ≤ hi)) :
    Calls Try.prog 35 #[.agg #[.int .i64 lo, .int .i64 hi], .int .i64 n] w fun e w' => e = .returned (.bool false) ∧ Below w.heap.size w w' := by
  by_cases h0 : lo ≤ n
  · have d1 : decide (n ≤ hi) = false := decide_eq_false (by omega)
    clear h
    go_enter Try.func35, Try.ntmps35
    go_wp2
    go_ret
    exact ⟨rfl, (by repeat' (first | (with_reducible exact Below.refl _ _) | (with_reducible assumption) | (with_reducible refine Below.alloc ?_ ?_ _) | (with_reducible refine below_drew ?_ _) | (with_reducible refine Below.drew ?_) | (with_reducible refine Below.setCell ?_ ?_ _) | go_size))⟩
  · have d1 : decide (lo ≤ n) = false := decide_eq_false h0
    clear h
    go_enter Try.func35, Try.ntmps35
    go_wp2
    go_ret
    exact ⟨rfl, (by repeat' (first | (with_reducible exact Below.refl _ _) | (with_reducible assumption) | (with_reducible refine Below.alloc ?_ ?_ _) | (with_reducible refine below_drew ?_ _) | (with_reducible refine Below.drew ?_) | (with_reducible refine Below.setCell ?_ ?_ _) | go_size))⟩
/-- A number of a span. -/
def atV (lo hi i : Int) : Int := lo + i % (hi - lo + 1)
theorem atV_bd {lo hi : Int} (h : lo ≤ hi) (i : Int) : lo ≤ atV lo hi i ∧ atV lo hi i ≤ hi := by
  unfold atV
  have a := Int.emod_nonneg i (show hi - lo + 1 ≠ 0 by omega)
  have b := Int.emod_lt_of_pos i (show 0 < hi - lo + 1 by omega)
  omega
set_option maxHeartbeats 2000000 in
theorem at_any (lo hi i : Int) (w : World) (va : SVd lo hi) (i0 : 0 ≤ i) (i1 : i < 18446744073709551616) :
    Calls Try.prog 34 #[.agg #[.int .i64 lo, .int .i64 hi], .int .u64 i] w fun e w' => e = .returned (.int .i64 (atV lo hi i)) ∧ Below w.heap.size w w' := by
  obtain ⟨v1, v2, v3⟩ := va
  have a := Int.emod_nonneg i (show hi - lo + 1 ≠ 0 by omega)
  have b := Int.emod_lt_of_pos i (show 0 < hi - lo + 1 by omega)
  unfold atV
  have w1 : IntKind.i64.wrap (hi - lo) = hi - lo := IntWalk.i64_in _ (by omega)
  have w2 : IntKind.i64.wrap (hi - lo + 1) = hi - lo + 1 := IntWalk.i64_in _ (by omega)
  have w3 : IntKind.u64.wrap (hi - lo + 1) = hi - lo + 1 := IntWalk.u64_in _ (by omega)
  have w4 : i.tmod (hi - lo + 1) = i % (hi - lo + 1) := Int.tmod_eq_emod_of_nonneg i0
  obtain ⟨m, hm⟩ : ∃ m, i % (hi - lo + 1) = m := ⟨_, rfl⟩
  rw [hm] at a b w4
  rw [hm]
  have w5 : IntKind.i64.wrap m = m := IntWalk.i64_in _ (by omega)
  have w6 : IntKind.i64.wrap (lo + m) = lo + m := IntWalk.i64_in _ (by omega)
  have hne : ¬ hi - lo + 1 = 0 := by omega
  have HM := Lib.hid hm
  clear hm
  go_enter Try.func34, Try.ntmps34
  go_wp2_with fail
  go_quiet (fail)
  go_wp2
  go_ret
  exact ⟨rfl, (by repeat' (first | (with_reducible exact Below.refl _ _) | (with_reducible assumption) | (with_reducible refine Below.alloc ?_ ?_ _) | (with_reducible refine below_drew ?_ _) | (with_reducible refine Below.drew ?_) | (with_reducible refine Below.setCell ?_ ?_ _) | go_size))⟩

end Go.Proofs.Ytknbhpnhnhfbpaa
