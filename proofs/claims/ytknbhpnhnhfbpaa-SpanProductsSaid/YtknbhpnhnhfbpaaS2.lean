/- Layer 3: the least span that contains a b / c, as package span reckons it. -/
import Derived.Test.YtknbhpnhnhfbpaaS1
import Derived.Test.YtknbhpnhnhfbpaaRDiv2
namespace Go.Proofs.Ytknbhpnhnhfbpaa
set_option linter.unusedVariables false
open Go.RowKit Go.Shelf

/-- a b / c is qN / qC, and qC is positive. -/
def qN (a b c : Int) : Int := if c < 0 then -(a * b) else a * b
def qC (c : Int) : Int := (c.natAbs : Int)
def qT (a b c : Int) : Int × Int × Bool := if ((qN a b c).natAbs : Int) ≤ 1152921504606846976 * qC c then (qN a b c / qC c, -(-qN a b c / qC c), true) else (0, 0, false)

theorem three_b {a b n d : Int} {c e : Bool} (h : (a, b, c) = (n, d, e)) : a = n ∧ b = d ∧ c = e := by injection h with h1 h2; injection h2 with h2 h3; exact ⟨h1, h2, h3⟩
theorem ediv_is {x z k : Int} (hz : 0 < z) (h0 : z * k ≤ x) (h1 : x < z * k + z) : x / z = k :=
  ((Int.ediv_emod_unique (r := x - z * k) (q := k) hz).2 ⟨by omega, by omega, by omega⟩).1
theorem q_sign {a b c : Int} {sa sb sc : Bool} (d1 : decide (a < 0) = sa) (d2 : decide (b < 0) = sb) (d3 : decide (c < 0) = sc) : qN a b c = if ((sa != sb) != sc) = true then -((a.natAbs : Int) * (b.natAbs : Int)) else (a.natAbs : Int) * (b.natAbs : Int) := by
  subst d1 d2 d3
  unfold qN
  rcases Int.lt_or_le a 0 with h1 | h1 <;> rcases Int.lt_or_le b 0 with h2 | h2 <;> rcases Int.lt_or_le c 0 with h3 | h3
  all_goals
    first | (have e1 : (a.natAbs : Int) = -a := by omega) | (have e1 : (a.natAbs : Int) = a := by omega)
    first | (have e2 : (b.natAbs : Int) = -b := by omega) | (have e2 : (b.natAbs : Int) = b := by omega)
    rw [e1, e2]
    first | (have g1 : decide (a < 0) = true := decide_eq_true h1) | (have g1 : decide (a < 0) = false := decide_eq_false (by omega))
    first | (have g2 : decide (b < 0) = true := decide_eq_true h2) | (have g2 : decide (b < 0) = false := decide_eq_false (by omega))
    first | (have g3 : decide (c < 0) = true := decide_eq_true h3) | (have g3 : decide (c < 0) = false := decide_eq_false (by omega))
    rw [g1, g2, g3]
    first | rw [if_pos h3] | rw [if_neg (show ¬ c < 0 by omega)]
    simp [Int.neg_mul, Int.mul_neg]
/-- The quotient of absolute values, and what it says of the span. -/
theorem q_big {P z : Int} (hz : 0 < z) (h : 1152921504606846976 < P / z ∨ (P / z = 1152921504606846976 ∧ 0 < P % z)) : 1152921504606846976 * z < P := by
  have e := Int.mul_ediv_add_emod P z
  have r0 := Int.emod_nonneg P (show z ≠ 0 by omega)
  generalize P / z = q at *
  generalize P % z = r at *
  rcases h with h | ⟨rfl, h⟩
  · have := Int.mul_le_mul_of_nonneg_left (show 1152921504606846977 ≤ q by omega) (show 0 ≤ z by omega)
    omega
  · omega
theorem q_small {P z : Int} (hz : 0 < z) (h : ¬ (1152921504606846976 < P / z ∨ (P / z = 1152921504606846976 ∧ 0 < P % z))) : P ≤ 1152921504606846976 * z := by
  have e := Int.mul_ediv_add_emod P z
  have r0 := Int.emod_nonneg P (show z ≠ 0 by omega)
  have r1 := Int.emod_lt_of_pos P hz
  generalize P / z = q at *
  generalize P % z = r at *
  by_cases c : q = 1152921504606846976
  · subst c; omega
  · have := Int.mul_le_mul_of_nonneg_left (show q ≤ 1152921504606846975 by omega) (show 0 ≤ z by omega)
    omega
def up (r : Int) : Int := if 0 < r then 1 else 0
theorem q_pos {P z : Int} (hz : 0 < z) : -(-P / z) = P / z + up (P % z) := by
  have e := Int.mul_ediv_add_emod P z
  have r0 := Int.emod_nonneg P (show z ≠ 0 by omega)
  have r1 := Int.emod_lt_of_pos P hz
  generalize P / z = q at *
  generalize P % z = r at *
  unfold up
  split
  · rw [ediv_is (k := -q - 1) hz (by rw [Int.mul_sub, Int.mul_neg]; omega) (by rw [Int.mul_sub, Int.mul_neg]; omega)]; omega
  · rw [ediv_is (k := -q) hz (by rw [Int.mul_neg]; omega) (by rw [Int.mul_neg]; omega)]; omega
theorem q_neg {P z : Int} (hz : 0 < z) : -P / z = -(P / z + up (P % z)) := by have := q_pos (P := P) hz; omega
theorem qT_val {a b c : Int} {sa sb sc : Bool} (d1 : decide (a < 0) = sa) (d2 : decide (b < 0) = sb) (d3 : decide (c < 0) = sc) (hc : c ≠ 0) {P : Int} (hP : (a.natAbs : Int) * (b.natAbs : Int) = P) :
    qT a b c = if 1152921504606846976 < P / (c.natAbs : Int) ∨ (P / (c.natAbs : Int) = 1152921504606846976 ∧ 0 < P % (c.natAbs : Int)) then (0, 0, false) else if ((sa != sb) != sc) = true then (-(P / (c.natAbs : Int) + up (P % (c.natAbs : Int))), -(P / (c.natAbs : Int)), true) else (P / (c.natAbs : Int), P / (c.natAbs : Int) + up (P % (c.natAbs : Int)), true) := by
  have hz : (0 : Int) < (c.natAbs : Int) := by omega
  have P0 : 0 ≤ P := by rw [← hP]; exact Int.mul_nonneg (by omega) (by omega)
  unfold qT
  rw [q_sign d1 d2 d3, hP]
  unfold qC
  have e1 : ((if ((sa != sb) != sc) = true then -P else P).natAbs : Int) = P := by split <;> omega
  rw [e1]
  by_cases h : 1152921504606846976 < P / (c.natAbs : Int) ∨ (P / (c.natAbs : Int) = 1152921504606846976 ∧ 0 < P % (c.natAbs : Int))
  · rw [if_pos h, if_neg (by have := q_big hz h; omega)]
  · rw [if_neg h, if_pos (q_small hz h)]
    split
    · rw [q_neg hz, Int.neg_neg]
    · rw [q_pos hz]

theorem quiet_eq {P : Program} {f : FuncId} {args : Array Value} {w : World} {n : Nat} {v : Value}
    (h : Calls P f args (w.drewN n) fun e w' => e = .returned v ∧ w.drewN n = w') : Calls P f args (w.drewN n) fun e w'' => e = .returned v ∧ ∃ m, w'' = w.drewN m :=
  h.mono fun _ _ ⟨he, hm⟩ => ⟨he, n, hm.symm⟩
def isN (n : Int) : Bool := decide (-1152921504606846976 ≤ n ∧ n ≤ 1152921504606846976)
set_option maxHeartbeats 1000000 in
theorem ssize_any (n : Int) (w : World) (h0 : -1152921504606846976 ≤ n) (h1 : n ≤ 1152921504606846976) :
    Calls Try.prog 70 #[.int .i64 n] w fun e w' => e = .returned (.int .u64 (n.natAbs : Int)) ∧ w = w' := by
  have e : (n.natAbs : Int) = max n (-n) := by omega
  have b0 : 0 ≤ max n (-n) := by omega
  have b1 : max n (-n) ≤ 1152921504606846976 := by omega
  rw [e]
  clear e
  have wn : IntKind.i64.wrap (-n) = -n := IntWalk.i64_in _ (by omega)
  obtain ⟨m, hm⟩ : ∃ m, max n (-n) = m := ⟨_, rfl⟩
  rw [hm] at b0 b1
  rw [hm]
  go_enter Try.func70, Try.ntmps70
  go_wp2
  go_ret
  exact ⟨rfl, rfl⟩

set_option maxHeartbeats 1000000 in
theorem isNumber_any (n : Int) (w : World) :
    Calls Try.prog 50 #[.int .i64 n] w fun e w' => e = .returned (.bool (isN n)) ∧ w = w' := by
  by_cases h0 : -1152921504606846976 ≤ n
  · by_cases h1 : n ≤ 1152921504606846976
    · have hv : Hid (isN n = true) := decide_eq_true ⟨h0, h1⟩
      go_enter Try.func50, Try.ntmps50
      go_wp2
      go_ret
      exact ⟨by rw [hv.out]; rfl, rfl⟩
    · have d1 : decide (n ≤ 1152921504606846976) = false := by simpa using h1
      have hv : Hid (isN n = false) := decide_eq_false (fun h => h1 h.2)
      go_enter Try.func50, Try.ntmps50
      go_wp2
      go_ret
      exact ⟨by rw [hv.out]; rfl, rfl⟩
  · have d1 : decide (-1152921504606846976 ≤ n) = false := by simpa using h0
    have hv : Hid (isN n = false) := decide_eq_false (fun h => h0 h.1)
    go_enter Try.func50, Try.ntmps50
    go_wp2
    go_ret
    exact ⟨by rw [hv.out]; rfl, rfl⟩


set_option maxRecDepth 100000 in
set_option maxHeartbeats 8000000 in
theorem qspan_walk (a b c x y z h l q r n d : Int) (ok : Bool) (w : World) (x0 : 0 ≤ q) (x1 : q < 18446744073709551616) (r0 : 0 ≤ r) (r1 : r < 18446744073709551616)
    (C1 : ∀ w, Hid (Calls Try.prog 70 #[.int .i64 a] w fun e w' => e = .returned (.int .u64 x) ∧ w = w'))
    (C2 : ∀ w, Hid (Calls Try.prog 70 #[.int .i64 b] w fun e w' => e = .returned (.int .u64 y) ∧ w = w'))
    (C3 : ∀ w, Hid (Calls Try.prog 70 #[.int .i64 c] w fun e w' => e = .returned (.int .u64 z) ∧ w = w'))
    (CM : ∀ w, Hid (Calls Try.prog 69 #[.int .u64 x, .int .u64 y] w fun e w' => e = .returned (.tuple #[.int .u64 h, .int .u64 l]) ∧ w = w'))
    (CD : ∀ w, Hid (Calls Try.prog 71 #[.int .u64 h, .int .u64 l, .int .u64 z] w fun e w' => e = .returned (.tuple #[.int .u64 q, .int .u64 r]) ∧ ∃ k, w' = w.drewN k))
    (hz : decide (z ≤ h) = false) (sg : Bool) (d4 : (!(!decide (a < 0) == decide (b < 0)) == decide (c < 0)) = sg)
    (R : Hid ((if 1152921504606846976 < q ∨ (q = 1152921504606846976 ∧ 0 < r) then (0, 0, false) else if sg = true then (-(q + up r), -q, true) else (q, q + up r, true)) = (n, d, ok))) :
    Calls Try.prog 62 #[.agg #[.int .i64 a, .int .i64 b, .int .i64 c]] w fun e w' => e = .returned (.tuple #[.agg #[.int .i64 n, .int .i64 d], .bool ok]) ∧ Below w.heap.size w w' := by
  by_cases c1 : 1152921504606846976 < q
  · have g1 : decide (1152921504606846976 < q) = true := decide_eq_true c1
    obtain ⟨rfl, rfl, rfl⟩ : n = 0 ∧ d = 0 ∧ ok = false := by have h := R.out; rw [if_pos (.inl c1)] at h; obtain ⟨q1, q2, q3⟩ := three_b h; exact ⟨q1.symm, q2.symm, q3.symm⟩
    clear R c1 d4
    go_enter Try.func62, Try.ntmps62
    go_wp2_with fail
    go_quiet ((first | (go_at_call 70; (first | (with_reducible exact quiet_eq ((C1 _).out)) | (with_reducible exact quiet_eq ((C2 _).out)))) | (go_at_call 69; (with_reducible exact quiet_eq ((CM _).out)))))
    go_wp2_with (first | (go_at_call 70; (with_reducible refine ((C3 _).out).mono ?_); rintro e w' ⟨rfl, rfl⟩) | (go_at_call 71; (with_reducible refine ((CD _).out).mono ?_); rintro e w' ⟨rfl, nk, rfl⟩))
    refine bodyPost_ret (by simp [results, Try.results62, go_sem]; try rfl) rfl ?_
    exact ⟨rfl, (by repeat' (first | (with_reducible exact Below.refl _ _) | (with_reducible assumption) | (with_reducible refine Below.alloc ?_ ?_ _) | (with_reducible refine below_drew ?_ _) | (with_reducible refine Below.drew ?_) | (with_reducible refine Below.setCell ?_ ?_ _) | go_size))⟩
  have g1 : decide (1152921504606846976 < q) = false := decide_eq_false c1
  by_cases c2 : q = 1152921504606846976 ∧ 0 < r
  · have g2 : decide (0 < r) = true := decide_eq_true c2.2
    obtain ⟨rfl, rfl, rfl⟩ : n = 0 ∧ d = 0 ∧ ok = false := by have h := R.out; rw [if_pos (.inr c2)] at h; obtain ⟨q1, q2, q3⟩ := three_b h; exact ⟨q1.symm, q2.symm, q3.symm⟩
    obtain ⟨rfl, _⟩ := c2
    clear R c1 d4 g1
    go_enter Try.func62, Try.ntmps62
    go_wp2_with fail
    go_quiet ((first | (go_at_call 70; (first | (with_reducible exact quiet_eq ((C1 _).out)) | (with_reducible exact quiet_eq ((C2 _).out)))) | (go_at_call 69; (with_reducible exact quiet_eq ((CM _).out)))))
    go_wp2_with (first | (go_at_call 70; (with_reducible refine ((C3 _).out).mono ?_); rintro e w' ⟨rfl, rfl⟩) | (go_at_call 71; (with_reducible refine ((CD _).out).mono ?_); rintro e w' ⟨rfl, nk, rfl⟩))
    refine bodyPost_ret (by simp [results, Try.results62, go_sem]; try rfl) rfl ?_
    exact ⟨rfl, (by repeat' (first | (with_reducible exact Below.refl _ _) | (with_reducible assumption) | (with_reducible refine Below.alloc ?_ ?_ _) | (with_reducible refine below_drew ?_ _) | (with_reducible refine Below.drew ?_) | (with_reducible refine Below.setCell ?_ ?_ _) | go_size))⟩
  have R2 : Hid ((if sg = true then (-(q + up r), -q, true) else (q, q + up r, true)) = (n, d, ok)) := by have h := R.out; rw [if_neg (by omega)] at h; exact h
  clear R
  have q1 : q ≤ 1152921504606846976 := by omega
  have wi : IntKind.i64.wrap q = q := IntWalk.i64_in _ (by omega)
  have wo : IntKind.i64.wrap (q + 1) = q + 1 := IntWalk.i64_in _ (by omega)
  have wm : IntKind.i64.wrap (-q) = -q := IntWalk.i64_in _ (by omega)
  have wn : IntKind.i64.wrap (-(q + 1)) = -(q + 1) := IntWalk.i64_in _ (by omega)
  have g3 : (q == 1152921504606846976 && decide (0 < r)) = false := by
    rw [Bool.eq_false_iff]; intro hh; rw [Bool.and_eq_true] at hh; exact c2 ⟨by simpa using hh.1, by simpa using hh.2⟩
  by_cases c3 : 0 < r
  · have g2 : decide (0 < r) = true := decide_eq_true c3
    have g4 : (q == 1152921504606846976) = false := by simpa using fun h => c2 ⟨h, c3⟩
    have hu : up r = 1 := by unfold up; rw [if_pos c3]
    rw [hu] at R2
    clear c1 c2 g3 hu
    cases sg
    all_goals
      have h9 := R2.out
      first | rw [if_pos rfl] at h9 | rw [if_neg (by simp)] at h9
      obtain ⟨e1, e2, rfl⟩ := three_b h9
      clear h9
      subst e1; subst e2
      clear R2
      go_enter Try.func62, Try.ntmps62
      go_wp2_with fail
      go_quiet ((first | (go_at_call 70; (first | (with_reducible exact quiet_eq ((C1 _).out)) | (with_reducible exact quiet_eq ((C2 _).out)))) | (go_at_call 69; (with_reducible exact quiet_eq ((CM _).out)))))
      go_wp2_with (first | (go_at_call 70; (with_reducible refine ((C3 _).out).mono ?_); rintro e w' ⟨rfl, rfl⟩) | (go_at_call 71; (with_reducible refine ((CD _).out).mono ?_); rintro e w' ⟨rfl, nk, rfl⟩))
      refine bodyPost_ret (by simp [results, Try.results62, go_sem]; try rfl) rfl ?_
      exact ⟨rfl, (by repeat' (first | (with_reducible exact Below.refl _ _) | (with_reducible assumption) | (with_reducible refine Below.alloc ?_ ?_ _) | (with_reducible refine below_drew ?_ _) | (with_reducible refine Below.drew ?_) | (with_reducible refine Below.setCell ?_ ?_ _) | go_size))⟩
  · have g2 : decide (0 < r) = false := decide_eq_false c3
    have hu : up r = 0 := by unfold up; rw [if_neg c3]
    rw [hu, Int.add_zero] at R2
    clear c1 c2 g3 hu wo wn
    by_cases c4 : q = 1152921504606846976
    · subst c4
      clear wi wm g1
      cases sg
      all_goals
        have h9 := R2.out
        first | rw [if_pos rfl] at h9 | rw [if_neg (by simp)] at h9
        obtain ⟨e1, e2, rfl⟩ := three_b h9
        clear h9
        subst e1; subst e2
        clear R2
        go_enter Try.func62, Try.ntmps62
        go_wp2_with fail
        go_quiet ((first | (go_at_call 70; (first | (with_reducible exact quiet_eq ((C1 _).out)) | (with_reducible exact quiet_eq ((C2 _).out)))) | (go_at_call 69; (with_reducible exact quiet_eq ((CM _).out)))))
        go_wp2_with (first | (go_at_call 70; (with_reducible refine ((C3 _).out).mono ?_); rintro e w' ⟨rfl, rfl⟩) | (go_at_call 71; (with_reducible refine ((CD _).out).mono ?_); rintro e w' ⟨rfl, nk, rfl⟩))
        refine bodyPost_ret (by simp [results, Try.results62, go_sem]; try rfl) rfl ?_
        exact ⟨rfl, (by repeat' (first | (with_reducible exact Below.refl _ _) | (with_reducible assumption) | (with_reducible refine Below.alloc ?_ ?_ _) | (with_reducible refine below_drew ?_ _) | (with_reducible refine Below.drew ?_) | (with_reducible refine Below.setCell ?_ ?_ _) | go_size))⟩
    · have g4 : (q == 1152921504606846976) = false := by simpa using c4
      clear c4
      cases sg
      all_goals
        have h9 := R2.out
        first | rw [if_pos rfl] at h9 | rw [if_neg (by simp)] at h9
        obtain ⟨e1, e2, rfl⟩ := three_b h9
        clear h9
        subst e1; subst e2
        clear R2
        go_enter Try.func62, Try.ntmps62
        go_wp2_with fail
        go_quiet ((first | (go_at_call 70; (first | (with_reducible exact quiet_eq ((C1 _).out)) | (with_reducible exact quiet_eq ((C2 _).out)))) | (go_at_call 69; (with_reducible exact quiet_eq ((CM _).out)))))
        go_wp2_with (first | (go_at_call 70; (with_reducible refine ((C3 _).out).mono ?_); rintro e w' ⟨rfl, rfl⟩) | (go_at_call 71; (with_reducible refine ((CD _).out).mono ?_); rintro e w' ⟨rfl, nk, rfl⟩))
        refine bodyPost_ret (by simp [results, Try.results62, go_sem]; try rfl) rfl ?_
        exact ⟨rfl, (by repeat' (first | (with_reducible exact Below.refl _ _) | (with_reducible assumption) | (with_reducible refine Below.alloc ?_ ?_ _) | (with_reducible refine below_drew ?_ _) | (with_reducible refine Below.drew ?_) | (with_reducible refine Below.setCell ?_ ?_ _) | go_size))⟩

set_option maxHeartbeats 4000000 in
theorem qspan_high (a b c x y z h l : Int) (w : World)
    (C1 : ∀ w, Hid (Calls Try.prog 70 #[.int .i64 a] w fun e w' => e = .returned (.int .u64 x) ∧ w = w'))
    (C2 : ∀ w, Hid (Calls Try.prog 70 #[.int .i64 b] w fun e w' => e = .returned (.int .u64 y) ∧ w = w'))
    (C3 : ∀ w, Hid (Calls Try.prog 70 #[.int .i64 c] w fun e w' => e = .returned (.int .u64 z) ∧ w = w'))
    (CM : ∀ w, Hid (Calls Try.prog 69 #[.int .u64 x, .int .u64 y] w fun e w' => e = .returned (.tuple #[.int .u64 h, .int .u64 l]) ∧ w = w'))
    (hz : decide (z ≤ h) = true) :
    Calls Try.prog 62 #[.agg #[.int .i64 a, .int .i64 b, .int .i64 c]] w fun e w' => e = .returned (.tuple #[.agg #[.int .i64 0, .int .i64 0], .bool false]) ∧ Below w.heap.size w w' := by
  go_enter Try.func62, Try.ntmps62
  go_wp2_with fail
  go_quiet ((first | (go_at_call 70; (first | (with_reducible exact quiet_eq ((C1 _).out)) | (with_reducible exact quiet_eq ((C2 _).out)))) | (go_at_call 69; (with_reducible exact quiet_eq ((CM _).out)))))
  go_wp2_with (go_at_call 70; (with_reducible refine ((C3 _).out).mono ?_); rintro e w' ⟨rfl, rfl⟩)
  refine bodyPost_ret (by simp [results, Try.results62, go_sem]; try rfl) rfl ?_
  exact ⟨rfl, (by repeat' (first | (with_reducible exact Below.refl _ _) | (with_reducible assumption) | (with_reducible refine Below.alloc ?_ ?_ _) | (with_reducible refine below_drew ?_ _) | (with_reducible refine Below.drew ?_) | (with_reducible refine Below.setCell ?_ ?_ _) | go_size))⟩

theorem qspan_any (a b c : Int) (w : World) (a0 : -1152921504606846976 ≤ a) (a1 : a ≤ 1152921504606846976) (b0 : -1152921504606846976 ≤ b) (b1 : b ≤ 1152921504606846976) (c0 : -1152921504606846976 ≤ c) (c1 : c ≤ 1152921504606846976) (hc : c ≠ 0) (n d : Int) (ok : Bool) (hT : qT a b c = (n, d, ok)) :
    Calls Try.prog 62 #[.agg #[.int .i64 a, .int .i64 b, .int .i64 c]] w fun e w' => e = .returned (.tuple #[.agg #[.int .i64 n, .int .i64 d], .bool ok]) ∧ Below w.heap.size w w' := by
  have hv := qT_val (a := a) (b := b) (c := c) rfl rfl rfl hc rfl
  rw [hv] at hT
  clear hv
  have x0 := Int.mul_nonneg (show (0 : Int) ≤ a.natAbs by omega) (show (0 : Int) ≤ b.natAbs by omega)
  have C1 := fun w => Lib.hid (ssize_any a w a0 a1)
  have C2 := fun w => Lib.hid (ssize_any b w b0 b1)
  have C3 := fun w => Lib.hid (ssize_any c w c0 c1)
  have CM := fun w => Lib.hid (mul64 (a.natAbs : Int) (b.natAbs : Int) w (by omega) (by omega) (by omega) (by omega))
  obtain ⟨P, hP⟩ : ∃ P, (a.natAbs : Int) * (b.natAbs : Int) = P := ⟨_, rfl⟩
  rw [hP] at hT x0
  simp only [hP] at CM
  have x1 : P ≤ 1329227995784915872903807060280344576 := by
    rw [← hP]
    have := Int.mul_le_mul (show (a.natAbs : Int) ≤ 1152921504606846976 by omega) (show (b.natAbs : Int) ≤ 1152921504606846976 by omega) (by omega) (by omega)
    omega
  by_cases hz : (c.natAbs : Int) ≤ hiW P
  · have hb : 1152921504606846976 < P / (c.natAbs : Int) := by
      have hh : (c.natAbs : Int) * 18446744073709551616 ≤ P := by unfold hiW at hz; omega
      have := (Int.le_ediv_iff_mul_le (a := 18446744073709551616) (b := P) (show (0 : Int) < c.natAbs by omega)).2 (by omega)
      omega
    rw [if_pos (.inl hb)] at hT
    obtain ⟨q1, q2, q3⟩ := three_b hT
    subst q1; subst q2; subst q3
    exact qspan_high a b c _ _ _ _ _ w C1 C2 C3 CM (decide_eq_true hz)
  · obtain ⟨l0, l1⟩ := loW_bd P
    have h0 : 0 ≤ hiW P := by unfold hiW; omega
    have e : hiW P * 18446744073709551616 + loW P = P := by unfold hiW loW; omega
    have CD := fun w => Lib.hid (div64_any (hiW P) (loW P) (c.natAbs : Int) w h0 (by omega) l0 l1 (by omega))
    rw [e] at CD
    have hz0 : (0 : Int) < c.natAbs := by omega
    have q0 : 0 ≤ P / (c.natAbs : Int) := Int.ediv_nonneg x0 (by omega)
    have q1 : P / (c.natAbs : Int) < 18446744073709551616 := (Int.ediv_lt_iff_lt_mul hz0).2 (by unfold hiW at hz; omega)
    have r0 := Int.emod_nonneg P (show (c.natAbs : Int) ≠ 0 by omega)
    have r1 := Int.emod_lt_of_pos P hz0
    exact qspan_walk a b c _ _ _ _ _ _ _ n d ok w q0 q1 r0 (by omega) C1 C2 C3 CM CD (decide_eq_false hz) _ rfl (by have e : ∀ x y z : Bool, ((x != y) != z) = (!(!x == y) == z) := (by decide); rw [e] at hT; exact hT)

end Go.Proofs.Ytknbhpnhnhfbpaa
