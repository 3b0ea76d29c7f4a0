/- Products of two numbers in two words, and what fits into a fraction. -/
import Derived.Test.YtggpdhdbeokkcaaGreatRWide
namespace Go.Proofs.YtggpdhdbeokkcaaGreat
set_option linter.unusedVariables false
open Go.RowKit Go.Shelf

theorem mul_w {x y : Nat} (hx : x < 18446744073709551616) (hy : y < 18446744073709551616) : ((x * y / 18446744073709551616 : Nat) : Int) = hiW ((x : Int) * y) ∧ ((x * y % 18446744073709551616 : Nat) : Int) = loW ((x : Int) * y) := by
 have h := Nat.mul_le_mul (Nat.le_sub_one_of_lt hx) (Nat.le_sub_one_of_lt hy)
 rw [← Int.natCast_mul]
 generalize x * y = z at *
 unfold hiW loW
 omega

theorem mul64 (x y : Int) (w : World) (x0 : 0 ≤ x) (x1 : x < 18446744073709551616) (y0 : 0 ≤ y) (y1 : y < 18446744073709551616) :
  Calls Tryz.prog 125 #[.int .u64 x, .int .u64 y] w fun e w' => e = .returned (.tuple #[.int .u64 (hiW (x * y)), .int .u64 (loW (x * y))]) ∧ w = w' := by
 obtain ⟨x, rfl⟩ := Int.eq_ofNat_of_zero_le x0
 obtain ⟨y, rfl⟩ := Int.eq_ofNat_of_zero_le y0
 obtain ⟨e1, e2⟩ := mul_w (x := x) (y := y) (by omega) (by omega)
 refine (Tryz.bits_Mul64 x y (by omega) (by omega) w).mono fun e w' ⟨he, hw⟩ => ⟨?_, hw.symm⟩
 rw [he, e1, e2]

theorem abs_mul_same {a b : Int} (h : (a < 0 ∧ b < 0) ∨ (0 ≤ a ∧ 0 ≤ b)) : (a.natAbs : Int) * b.natAbs = a * b := by
 rcases h with ⟨h1, h2⟩ | ⟨h1, h2⟩
 ·rw [show (a.natAbs : Int) = -a by omega, show (b.natAbs : Int) = -b by omega, Int.neg_mul_neg]
 ·rw [show (a.natAbs : Int) = a by omega, show (b.natAbs : Int) = b by omega]
theorem abs_mul_other {a b : Int} (h : (a < 0 ∧ 0 ≤ b) ∨ (0 ≤ a ∧ b < 0)) : (a.natAbs : Int) * b.natAbs = -(a * b) := by
 rcases h with ⟨h1, h2⟩ | ⟨h1, h2⟩
 ·rw [show (a.natAbs : Int) = -a by omega, show (b.natAbs : Int) = b by omega, Int.neg_mul]
 ·rw [show (a.natAbs : Int) = a by omega, show (b.natAbs : Int) = -b by omega, Int.mul_neg]

set_option maxHeartbeats 1000000 in
theorem product_any (a b : Int) (w : World) (a0 : -9223372036854775808 ≤ a) (a1 : a ≤ 9223372036854775807) (b0 : -9223372036854775808 ≤ b) (b1 : b ≤ 9223372036854775807) :
  Calls Tryz.prog 114 #[.int .i64 a, .int .i64 b] w fun e w' => e = .returned (.agg #[.int .u64 (hiW (a * b)), .int .u64 (loW (a * b))]) ∧ Below w.heap.size w w' := by
 have E1 := Lib.hid (@abs_mul_same a b)
 have E2 := Lib.hid (@abs_mul_other a b)
 obtain ⟨x, hx⟩ : ∃ x : Int, x = a.natAbs := ⟨_, rfl⟩
 obtain ⟨y, hy⟩ : ∃ y : Int, y = b.natAbs := ⟨_, rfl⟩
 have x0 : 0 ≤ x := by omega
 have x1 : x < 18446744073709551616 := by omega
 have y0 : 0 ≤ y := by omega
 have y1 : y < 18446744073709551616 := by omega
 have CA : ∀ w, Hid (Calls Tryz.prog 111 #[.int .i64 a] w fun e w' => e = .returned (.int .u64 x) ∧ w = w') := fun w => by rw [hx]; exact size_any a w a0 a1
 have CB : ∀ w, Hid (Calls Tryz.prog 111 #[.int .i64 b] w fun e w' => e = .returned (.int .u64 y) ∧ w = w') := fun w => by rw [hy]; exact size_any b w b0 b1
 rw [← hx, ← hy] at E1 E2
 clear hx hy
 rcases Int.lt_or_le a 0 with h1 | h1 <;> rcases Int.lt_or_le b 0 with h2 | h2
 all_goals
  first | (have d1 : decide (a < 0) = true := decide_eq_true h1) | (have d1 : decide (a < 0) = false := decide_eq_false (by omega))
  first | (have d2 : decide (b < 0) = true := decide_eq_true h2) | (have d2 : decide (b < 0) = false := decide_eq_false (by omega))
  go_enter Tryz.func114, Tryz.ntmps114
  go_wp2_with (first
   | (go_at_call 111; (with_reducible refine ((CA _).out).mono ?_); rintro e w' ⟨rfl, rfl⟩)
   | (go_at_call 111; (with_reducible refine ((CB _).out).mono ?_); rintro e w' ⟨rfl, rfl⟩)
   | (go_at_call 125; refine (mul64 x y _ x0 x1 y0 y1).mono ?_; rintro e w' ⟨rfl, rfl⟩)
   | (go_at_call 121; refine (negated_any (x * y) _).mono ?_; rintro e w2 ⟨rfl, hb2⟩; obtain ⟨B2, hc2, hf2, m1, m2, z2⟩ := after2 (a := w) hb2 (by go_grown) (by go_size); clear hb2; have k0 : w2.cell? ⟨w.heap.size, 0, none⟩ = some (.int .u64 0) := (hc2 _ _ (by go_size)).trans (by simp [go_sem]); have k1 : w2.cell? ⟨w.heap.size, 1, none⟩ = some (.int .u64 0) := (hc2 _ _ (by go_size)).trans (by simp [go_sem])))
  refine bodyPost_ret (by simp [results, Tryz.results114, go_sem, World.cell?_alloc_past, *]; try rfl) rfl ?_
  exact ⟨by first | rw [E1.out (by omega)] | rw [E2.out (by omega), Int.neg_neg], by go_grown⟩

theorem ret_ib {k : IntKind} {a b : Int} {t : Bool} (h : a = b) : Ending.returned (.tuple #[.int k a, .bool t]) = .returned (.tuple #[.int k b, .bool t]) := by rw [h]

set_option maxHeartbeats 1000000 in
theorem number_any (z : Int) (w : World) (h0 : -170141183460469231731687303715884105728 < z) (h1 : z < 170141183460469231731687303715884105728) :
  Calls Tryz.prog 129 #[.agg #[.int .u64 (hiW z), .int .u64 (loW z)]] w fun e w' => e = .returned (.tuple (if -1152921504606846976 ≤ z ∧ z ≤ 1152921504606846976 then #[.int .i64 z, .bool true] else #[.int .i64 0, .bool false])) ∧ Below w.heap.size w w' := by
 obtain ⟨s, hs⟩ : ∃ s : Int, s = z.natAbs := ⟨_, rfl⟩
 have hs0 : 0 ≤ s := by omega
 have hs1 : s < 170141183460469231731687303715884105728 := by omega
 have C : ∀ w, Hid (Calls Tryz.prog 130 #[.agg #[.int .u64 (hiW z), .int .u64 (loW z)]] w fun e w' => e = .returned (.agg #[.int .u64 (hiW s), .int .u64 (loW s)]) ∧ Below w.heap.size w w') := fun w => by rw [hs]; exact wsize_any z w (by omega) h1
 have E := Lib.hid (num_no hs0 hs1)
 have Hs := Lib.hid hs
 clear hs
 obtain ⟨a1, a2⟩ := hiW_bd s
 obtain ⟨b1, b2⟩ := loW_bd s
 obtain ⟨c1, c2⟩ := loW_bd z
 have L : Hid (loW z = z % 18446744073709551616) := rfl
 by_cases hz : -1152921504606846976 ≤ z ∧ z ≤ 1152921504606846976
 ·rw [if_pos hz]
  obtain ⟨e1, e2⟩ := E.out.2 (by have := Hs.out; omega)
  have e1' : (hiW s != 0) = false := by rw [e1]; rfl
  generalize hiW s = p at *
  generalize loW s = q at *
  subst e1
  go_enter Tryz.func129, Tryz.ntmps129
  go_wp2_with (first
   | (go_at_call 130; (with_reducible refine ((C _).out).mono ?_); rintro e w2 ⟨rfl, hb2⟩; obtain ⟨B2, hc2, hf2, m1, z2⟩ := after1 (a := w) hb2 (by go_grown) (by go_size); clear hb2))
  go_ret2
  exact ⟨ret_ib (by have l := L.out; go_arith), by go_grown⟩
 ·rw [if_neg hz]
  have N : ¬ (hiW s = 0 ∧ loW s ≤ 1152921504606846976) := fun h => by have := E.out.1 h; have := Hs.out; omega
  clear E
  by_cases e1 : hiW s = 0
  ·have hq : 1152921504606846976 < loW s := by omega
   generalize hiW s = p at *
   generalize loW s = q at *
   subst e1
   clear N
   go_enter Tryz.func129, Tryz.ntmps129
   go_wp2_with (first
    | (go_at_call 130; (with_reducible refine ((C _).out).mono ?_); rintro e w2 ⟨rfl, hb2⟩; obtain ⟨B2, hc2, hf2, m1, z2⟩ := after1 (a := w) hb2 (by go_grown) (by go_size); clear hb2))
   go_ret2
   exact ⟨rfl, by go_grown⟩
  ·have e2 : (hiW s != 0) = true := by simpa using e1
   have e3 : (hiW s == 0) = false := by simpa using e1
   generalize hiW s = p at *
   generalize loW s = q at *
   clear N
   go_enter Tryz.func129, Tryz.ntmps129
   go_wp2_with (first
    | (go_at_call 130; (with_reducible refine ((C _).out).mono ?_); rintro e w2 ⟨rfl, hb2⟩; obtain ⟨B2, hc2, hf2, m1, z2⟩ := after1 (a := w) hb2 (by go_grown) (by go_size); clear hb2))
   all_goals
    go_ret2
    exact ⟨rfl, by go_grown⟩
end Go.Proofs.YtggpdhdbeokkcaaGreat
